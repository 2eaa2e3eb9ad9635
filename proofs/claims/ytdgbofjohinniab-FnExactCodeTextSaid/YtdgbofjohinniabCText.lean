/-
  The contracts of CodeText. By an AI agent.
-/
import Derived.Test.YtdgbofjohinniabText
import Derived.Test.YtdgbofjohinniabCounts
import Derived.Test.YtdgbofjohinniabJoin
namespace Go.Proofs.Ytdgbofjohinniab
open Go.RowKit Cv
set_option linter.unusedVariables false
set_option linter.unusedSimpArgs false
set_option maxRecDepth 100000

/-- the text of a word -/
def wTxt (S : List Int) (x : Int) : ByteArray := txt (digs S x) S.length
theorem wTxt_size (S : List Int) (x : Int) : (wTxt S x).size = S.length := txt_size _ _
def comma : ByteArray := ⟨#[44]⟩
/-- the text of the first words of a code -/
def cTxt (S C : List Int) : Nat → ByteArray
  | 0 => ⟨#[]⟩
  | k + 1 => (if k = 0 then cTxt S C k else cTxt S C k ++ comma) ++ wTxt S (gi C k)
theorem cTxt_size (S C : List Int) (h : S.length ≤ 8) (k : Nat) : (cTxt S C k).size ≤ 9 * k := by
  induction k with
  | zero => exact Nat.le_refl _
  | succ k ih =>
    have e := wTxt_size S (gi C k)
    have ec : comma.size = 1 := rfl
    simp only [cTxt]
    split
    · rw [ByteArray.size_append]; omega
    · rw [ByteArray.size_append, ByteArray.size_append]; omega
theorem join_snoc (ys : List (List UInt8)) (y sep : List UInt8) : Lib.join (ys ++ [y]) sep = (if ys = [] then y else Lib.join ys sep ++ sep ++ y) := by
  cases ys with
  | nil => simp [Lib.join_one]
  | cons x r =>
    rw [if_neg (by simp), List.cons_append, Lib.join_cons, Lib.join_cons]
    simp [Lib.joinTail]
theorem cTxt_join (S C : List Int) (k : Nat) : cTxt S C k = ⟨(Lib.join ((List.range k).map fun j => (wTxt S (gi C j)).data.toList) comma.data.toList).toArray⟩ := by
  induction k with
  | zero => rfl
  | succ k ih =>
    rw [List.range_succ, List.map_append, List.map_singleton, join_snoc, cTxt, ih]
    by_cases h : k = 0
    · subst h
      rw [if_pos rfl, if_pos (by simp)]
      apply ByteArray.ext
      simp [Lib.join_nil]
    · rw [if_neg h, if_neg (by simp [h])]
      apply ByteArray.ext
      simp

def eCText (S C : List Int) : Int := if eCode S C = 0 then (if C.length = 0 then 5 else 0) else eCode S C
def vCText (S C : List Int) : ByteArray := if eCode S C = 0 then cTxt S C C.length else ⟨#[]⟩

theorem digs_small {S : List Int} (hSp : Sp S) (x : Int) : ∀ i, i < S.length → 0 ≤ gi (digs S x) i ∧ gi (digs S x) i ≤ 9 := fun i hi => by
  have h1 := dig_bd S x hSp.bd i hi
  have h2 := hSp.bd i hi
  rw [gi_digs _ _ _ hi]; omega

theorem digitsText_n (a : Option Addr) (L : List Int) (n c : Nat) (e : L.length = n) (hl : n ≤ 16777216) (hbd : ∀ i, i < n → 0 ≤ gi L i ∧ gi L i ≤ 9) (w : World) (hL : Ints w a L) :
    Calls Try.prog 84 #[.slice a n c] w fun e w' => e = .returned (.string (txt L n)) ∧ Below w.heap.size w w' := by
  subst e; exact digitsText_any a L c hl hbd w hL

theorem join_n (G n c : Nat) (xs : List ByteArray) (e : xs.length = n) (w : World) (hcells : ∀ (j : Nat) x, xs[j]? = some x → w.cell? ⟨G, 0 + j, none⟩ = some (.string x)) (hbk : G < w.heap.size) (hN : n ≤ 140737488355328) (hcap : n ≤ c) (hlen : (Lib.join (xs.map (·.data.toList)) comma.data.toList).length ≤ 140737488355328) :
    Calls Try.prog 115 #[.slice (some ⟨G, 0, none⟩) n c, .string ⟨#[44]⟩] w fun e w' => e = .returned (.string ⟨(Lib.join (xs.map (·.data.toList)) comma.data.toList).toArray⟩) ∧ Below w.heap.size w w' := by
  subst e; exact Try.strings_Join G 0 c xs comma w hcells hbk hN hcap hlen

set_option maxHeartbeats 1000000 in
theorem l01WordText_any (ao : Option Addr) (S : List Int) (cap : Nat) (hSp : Sp S) (x : Int) (hx : 0 ≤ x) (hx2 : x ≤ 9223372036854775807) (w : World) (hS : Ints w ao S) :
    Calls Try.prog 114 #[.agg #[.slice ao S.length cap], .int .i64 x] w fun e w' => e = .returned (.string (wTxt S x)) ∧ Below w.heap.size w w' := by
  have HSp := Lib.hid hSp
  have hhi := hSp.hi
  have HB := Lib.hid (digs_small hSp x)
  clear hSp
  go_enter Try.func114, Try.ntmps114
  go_wp2_with fail
  have B0 : Below w.heap.size w (w.alloc (.cells #[.slice ao S.length cap] 28)) := by go_grown
  refine (l01Digits_any ao S cap hhi HSp.out.bd x hx hx2 _ (hS.below B0)).mono ?_
  rintro e w1 ⟨g, rfl, own, hb⟩
  have B1 : Below w.heap.size w w1 := B0.trans (hb.mono B0.size)
  have hg := own.base_le.2
  clear hb B0
  go_wp2_with fail
  go_loopw [6, 13] (fun t i wr => ∃ k : Nat, k ≤ S.length ∧ i = .int .i64 k ∧ t = .string (txt (digs S x) k) ∧ Below w1.heap.size w1 wr) (fun _ i _ => S.length - (intOf i).toNat)
  case atStart => exact ⟨0, Nat.zero_le _, rfl, rfl, Below.refl _ _⟩
  case round =>
    obtain ⟨k, hk, rfl, rfl, B⟩ := hrel
    by_cases hlt : k < S.length
    · have hck := kept_cell B (own.cell (k := k) (by rw [digs_length]; exact hlt)) hg
      obtain ⟨x1, x2⟩ := HB.out k hlt
      have s1 := txt_size (digs S x) k
      have HT : Hid (txt (digs S x) (k + 1) = txt (digs S x) k ++ dB (gi (digs S x) k)) := Lib.hid rfl
      obtain ⟨d, hd⟩ : ∃ d, d = gi (digs S x) k := ⟨_, rfl⟩
      rw [← hd] at hck x1 x2 HT
      have s2 : (dB d).size = 1 := rfl
      clear hd
      go_wp2_with fail
      refine (l01Dec_any d x1 x2 _).mono ?_
      rintro e w2 ⟨rfl, hb2⟩
      generalize dB d = D at s2 HT ⊢
      generalize txt (digs S x) k = T at s1 HT ⊢
      replace B := B.trans (hb2.mono B.size)
      clear hb2 hck
      go_wp2
      go_roundw
      case rel => exact ⟨k + 1, by omega, by go_num, by rw [HT.out], B⟩
      case measure => simp [intOf]; omega
    · have ek : k = S.length := by omega
      go_wp2
      go_ret
      exact ⟨by rw [wTxt, ← ek]; rfl, B1.trans (B.mono B1.size)⟩

set_option maxHeartbeats 4000000 in
theorem l01Text_any (ao : Option Addr) (S : List Int) (cap : Nat) (hSp : Sp S) (ac : Option Addr) (C : List Int) (capc : Nat) (hl : C.length ≤ 1024) (hC0 : ∀ i, i < C.length → 0 ≤ gi C i ∧ gi C i ≤ 9223372036854775807) (w : World) (hS : Ints w ao S) (hC : Ints w ac C) :
    Calls Try.prog 86 #[.agg #[.slice ao S.length cap], .slice ac C.length capc] w fun e w' => e = .returned (.string (cTxt S C C.length)) ∧ Below w.heap.size w w' := by
  have HSp := Lib.hid hSp
  have HC0 := Lib.hid hC0
  have hhi := hSp.hi
  have HZ := Lib.hid (cTxt_size S C hSp.hi)
  clear hSp hC0
  go_enter Try.func86, Try.ntmps86
  go_wp2_with fail
  go_loopw [5, 9] (fun t i wr => ∃ k : Nat, k ≤ C.length ∧ i = .int .i64 k ∧ t = .string (cTxt S C k) ∧ wr.cell? ⟨w.heap.size, 0, none⟩ = some (.slice ao S.length cap) ∧ w.heap.size < wr.heap.size ∧ Below w.heap.size w wr) (fun _ i _ => C.length - (intOf i).toNat)
  case atStart => exact ⟨0, Nat.zero_le _, rfl, rfl, cell_new _ _ _, lt_alloc _ _, by go_grown⟩
  case round =>
    obtain ⟨k, hk, rfl, rfl, c, l, B⟩ := hrel
    by_cases hlt : k < C.length
    · obtain ⟨b, o, rfl, hbl, hc⟩ := hC.at hlt
      have hck : wr.cell? ⟨b, o + k, none⟩ = some (.int .i64 (gi C k)) := kept_cell B (hc k hlt) hbl
      obtain ⟨x1, x2⟩ := HC0.out k hlt
      have s1 := HZ.out k
      have s2 := wTxt_size S (gi C k)
      have HT : Hid (cTxt S C (k + 1) = (if k = 0 then cTxt S C k else cTxt S C k ++ comma) ++ wTxt S (gi C k)) := Lib.hid rfl
      obtain ⟨T, hT⟩ : ∃ T, T = cTxt S C k := ⟨_, rfl⟩
      rw [← hT] at s1 HT ⊢
      have HTT := Lib.hid hT
      clear hc hT
      by_cases h0 : k = 0
      · rw [if_pos h0] at HT
        subst h0
        simp only [Nat.add_zero] at hck
        go_wp2_with fail
        have fc := fam_cell c
        have fk := fam_cell hck
        refine wp_region_fam (by kernel_rfl) (by kernel_rfl) ?_
        repeat (go_big_quiet_step ((go_at_call 114; exact fam_calls (l01WordText_any ao S cap HSp.out (gi C 0) x1 x2 _ (hS.below (B.trans ((fam_below _).mono B.size)))))))
        refine wpQuiet_nil ?_
        rintro _ ⟨x, rfl⟩
        have hb2 := fam_below x
        generalize fam wr x = w2 at hb2 ⊢
        clear fc fk
        go_wp2
        go_roundw
        case rel => exact ⟨1, by omega, by go_num, by rw [HT.out], kept_cell hb2 c l, lt_of_below hb2 l, B.trans (hb2.mono B.size)⟩
        case measure => simp [intOf]; omega
      · rw [if_neg h0] at HT
        have hd : decide ((0 : Int) < (k : Int)) = true := by simp; omega
        have hp : 0 < k := by omega
        clear h0
        have sc : (⟨#[44]⟩ : ByteArray).size = 1 := rfl
        have s3 : (T ++ (⟨#[44]⟩ : ByteArray)).size ≤ 9 * k + 1 := by rw [ByteArray.size_append, sc]; omega
        go_wp2_with fail
        have fc := fam_cell c
        have fk := fam_cell hck
        refine wp_region_fam (by kernel_rfl) (by kernel_rfl) ?_
        repeat (go_big_quiet_step ((go_at_call 114; exact fam_calls (l01WordText_any ao S cap HSp.out (gi C k) x1 x2 _ (hS.below (B.trans ((fam_below _).mono B.size)))))))
        refine wpQuiet_nil ?_
        rintro _ ⟨x, rfl⟩
        have hb2 := fam_below x
        generalize fam wr x = w2 at hb2 ⊢
        clear fc fk
        go_wp2
        go_roundw
        case rel => exact ⟨k + 1, by omega, by go_num, by rw [HT.out]; rfl, kept_cell hb2 c l, lt_of_below hb2 l, B.trans (hb2.mono B.size)⟩
        case measure => simp [intOf]; omega
    · have ek : k = C.length := by omega
      go_wp2
      go_ret
      exact ⟨by rw [← ek]; rfl, B⟩

end Go.Proofs.Ytdgbofjohinniab

/-
  The contracts of SlipText. By an AI agent.
-/
import Derived.Test.YtcbkmmadejbbpaaSlE
import Derived.Test.YtcbkmmadejbbpaaSlS
import Derived.Test.YtcbkmmadejbbpaaMm7
import Derived.Test.YtcbkmmadejbbpaaText
import Derived.Test.YtcbkmmadejbbpaaJoin
namespace Go.Proofs.Ytcbkmmadejbbpaa
open Go.RowKit Cv
set_option linter.unusedVariables false
set_option linter.unusedSimpArgs false
set_option maxRecDepth 100000

theorem ret_sit {a b : ByteArray} {c d : Int} (h1 : a = b) (h2 : c = d) : Ending.returned (.tuple #[.string a, .int .i64 c]) = .returned (.tuple #[.string b, .int .i64 d]) := by rw [h1, h2]
theorem ret_strt {a b : ByteArray} (h : a = b) : Ending.returned (.string a) = .returned (.string b) := by rw [h]
theorem app_nil (A : ByteArray) : A ++ (⟨#[]⟩ : ByteArray) = A := by apply ByteArray.ext; simp
def dot : ByteArray := ⟨#[46]⟩
/-- the text of a set -/
def sTxt (t : Int) : ByteArray := txt (sgL t) (sgL t).length
theorem sTxt_size (t : Int) : (sTxt t).size ≤ 4 := by
  unfold sTxt; rw [txt_size]
  exact selL_len _ _
/-- the text of the first sets of a slip -/
def pTxt (T : List Int) : Nat → ByteArray
  | 0 => ⟨#[]⟩
  | k + 1 => (if k = 0 then pTxt T k else pTxt T k ++ dot) ++ sTxt (gi T k)
theorem pTxt_size (T : List Int) (k : Nat) : (pTxt T k).size ≤ 5 * k := by
  induction k with
  | zero => exact Nat.le_refl _
  | succ k ih =>
    have e := sTxt_size (gi T k)
    have ec : dot.size = 1 := rfl
    simp only [pTxt]
    split
    · rw [ByteArray.size_append]; omega
    · rw [ByteArray.size_append, ByteArray.size_append]; omega
theorem join_snoct (ys : List (List UInt8)) (y sep : List UInt8) : Lib.join (ys ++ [y]) sep = (if ys = [] then y else Lib.join ys sep ++ sep ++ y) := by
  cases ys with
  | nil => simp [Lib.join_one]
  | cons x r =>
    rw [if_neg (by simp), List.cons_append, Lib.join_cons, Lib.join_cons]
    simp [Lib.joinTail]
theorem pTxt_join (T : List Int) (k : Nat) : pTxt T k = ⟨(Lib.join ((List.range k).map fun j => (sTxt (gi T j)).data.toList) dot.data.toList).toArray⟩ := by
  induction k with
  | zero => rfl
  | succ k ih =>
    rw [List.range_succ, List.map_append, List.map_singleton, join_snoct, pTxt, ih]
    by_cases h : k = 0
    · subst h
      rw [if_pos rfl, if_pos (by simp)]
      apply ByteArray.ext
      simp [Lib.join_nil]
    · rw [if_neg h, if_neg (by simp [h])]
      apply ByteArray.ext
      simp
def vSlT (S T : List Int) : ByteArray := if eSls S [T] = 0 then pTxt T T.length else ⟨#[]⟩
theorem sgL_bd (t : Int) : ∀ i, i < (sgL t).length → 0 ≤ gi (sgL t) i ∧ gi (sgL t) i ≤ 9 := fun i hi => by
  have hm : gi (sgL t) i ∈ sgL t := by
    simp only [gi, List.getD, List.getElem?_eq_getElem hi, Option.getD_some]
    exact List.getElem_mem hi
  obtain ⟨j, hj, _, e⟩ := (mem_selL (bitI t) 4 _).1 hm
  omega
theorem join_t (G n c : Nat) (xs : List ByteArray) (e : xs.length = n) (w : World) (hcells : ∀ (j : Nat) x, xs[j]? = some x → w.cell? ⟨G, 0 + j, none⟩ = some (.string x)) (hbk : G < w.heap.size) (hN : n ≤ 140737488355328) (hcap : n ≤ c) (hlen : (Lib.join (xs.map (·.data.toList)) dot.data.toList).length ≤ 140737488355328) :
    Calls Try.prog 97 #[.slice (some ⟨G, 0, none⟩) n c, .string ⟨#[46]⟩] w fun e w' => e = .returned (.string ⟨(Lib.join (xs.map (·.data.toList)) dot.data.toList).toArray⟩) ∧ Below w.heap.size w w' := by
  subst e; exact Try.strings_Join G 0 c xs dot w hcells hbk hN hcap hlen
theorem infoStrt : (Try.prog.info? 9).map (fun i => (i.zero, i.size, i.bytes)) = some (some (.string ⟨#[]⟩), 1, 16) := by kernel_rfl
theorem sl_bdt {S T : List Int} (h : Sl S T) {k : Nat} (hk : k < T.length) : 0 ≤ gi T k ∧ gi T k < 16 := by
  have := h.bd k (by have := h.len; omega)
  omega

set_option maxHeartbeats 1000000 in
theorem l07Text_any (a : Option Addr) (T : List Int) (c : Nat) (hl : T.length ≤ 8) (hb : ∀ k, k < T.length → 0 ≤ gi T k ∧ gi T k < 16) (w : World) (hT : Ints w a T) :
    Calls Try.prog 95 #[.slice a T.length c] w fun e w' => e = .returned (.string (pTxt T T.length)) ∧ Below w.heap.size w w' := by
  have HB := Lib.hid hb
  clear hb
  go_enter Try.func95, Try.ntmps95
  go_wp2_with fail
  go_loopw [3, 9] (fun s i wr => ∃ k : Nat, k ≤ T.length ∧ i = .int .i64 k ∧ s = .string (pTxt T k) ∧ Below w.heap.size w wr) (fun _ i _ => T.length - (intOf i).toNat)
  case atStart => exact ⟨0, Nat.zero_le _, rfl, rfl, Below.refl _ _⟩
  case round =>
    obtain ⟨k, hk, rfl, rfl, B⟩ := hrel
    by_cases hlt : k < T.length
    · obtain ⟨b, o, rfl, hbl, hc⟩ := hT.at hlt
      have hck := kept_cell B (hc k hlt) hbl
      obtain ⟨t0, t1⟩ := HB.out k hlt
      have hsz := pTxt_size T k
      have hsd : dot.size = 1 := rfl
      obtain ⟨A, hA⟩ : ∃ A, A = (if k = 0 then pTxt T k else pTxt T k ++ dot) := ⟨_, rfl⟩
      have hAs : A.size ≤ 41 := by
        rw [hA]; split
        · omega
        · rw [ByteArray.size_append]; omega
      have HP : Hid (pTxt T (k + 1) = A ++ sTxt (gi T k)) := Lib.hid (by rw [hA]; rfl)
      have HA := Lib.hid hA
      clear hA hc
      obtain ⟨p, hp⟩ : ∃ p, p = pTxt T k := ⟨_, rfl⟩
      have HPp := Lib.hid hp
      rw [← hp] at hsz ⊢
      clear hp
      obtain ⟨t, ht⟩ : ∃ t, t = gi T k := ⟨_, rfl⟩
      rw [← ht] at hck t0 t1 HP
      have HLL := Lib.hid (selL_len (bitI t) 4)
      clear ht
      by_cases hk0 : k = 0
      · have HAp : Hid (A = p) := Lib.hid (by rw [HA.out, if_pos hk0, HPp.out])
        have d0 : decide (0 < (k : Int)) = false := by simp [hk0]
        have d1 : ¬ 0 < (k : Int) := by omega
        clear hk0
        go_wp2_with fail
        refine (l07Signs_any t t0 t1 _).mono ?_
        rintro e w2 ⟨v, rfl, own, hb2⟩
        have hbs := B.size
        replace own := own.rebase hbs
        replace B := B.trans (hb2.mono B.size)
        obtain ⟨av, cv, hv⟩ : ∃ ao cap, v = .slice ao (sgL t).length cap := by obtain ⟨x, y, z, _⟩ := own.ints; exact ⟨x, y, z⟩
        subst hv
        have hIn := own_ints own
        obtain ⟨L, hL⟩ : ∃ L, L = sgL t := ⟨_, rfl⟩
        have hL4 : L.length ≤ 4 := by rw [hL]; exact HLL.out
        have HLb := Lib.hid (sgL_bd t)
        rw [← hL] at hIn HLb ⊢
        have HL := Lib.hid hL
        clear hb2 own hL hck
        go_wp2_with fail
        rw [← HAp.out]
        go_loopw [3, 23] (fun s i wr => ∃ m : Nat, m ≤ L.length ∧ i = .int .i64 m ∧ s = .string (A ++ txt L m) ∧ Ints wr av L ∧ Below w.heap.size w wr) (fun _ i _ => L.length - (intOf i).toNat)
        case atStart => exact ⟨0, Nat.zero_le _, rfl, by rw [show txt L 0 = ⟨#[]⟩ from rfl, app_nil], hIn, B⟩
        case round =>
          clear hIn B
          obtain ⟨m, hm, rfl, rfl, hIn, B⟩ := hrel
          by_cases hlm : m < L.length
          · obtain ⟨b5, o5, rfl, hbl5, hc5⟩ := hIn.at hlm
            have hcm := hc5 m hlm
            obtain ⟨x1, x2⟩ := HLb.out m hlm
            have s1 := txt_size L m
            have s2 : (dB (gi L m)).size = 1 := rfl
            clear hc5
            go_wp2_with fail
            refine (l01Dec_any (gi L m) x1 x2 _).mono ?_
            rintro e w3 ⟨rfl, hb3⟩
            have HT : Hid ((A ++ txt L m) ++ dB (gi L m) = A ++ txt L (m + 1)) := Lib.hid (by rw [ByteArray.append_assoc]; rfl)
            generalize dB (gi L m) = D at s2 HT ⊢
            have s3 : (A ++ txt L m).size ≤ 45 := by rw [ByteArray.size_append]; omega
            generalize A ++ txt L m = X at s3 HT ⊢
            replace hIn := hIn.below hb3
            replace B := B.trans (hb3.mono B.size)
            clear hb3 hcm
            go_wp2
            go_roundw
            case rel => exact ⟨m + 1, by omega, by go_num, by rw [HT.out], hIn, B⟩
            case measure => simp [intOf]; omega
          · have em : Hid (m = L.length) := Lib.hid (by omega)
            go_wp2_with fail
            go_roundw
            case rel => exact ⟨k + 1, by omega, by go_num, by rw [HP.out, em.out]; unfold sTxt; rw [HL.out], B⟩
            case measure => simp [intOf]; omega
      · have HAp : Hid (A = p ++ ⟨#[46]⟩) := Lib.hid (by rw [HA.out, if_neg hk0, HPp.out]; rfl)
        have d1 : 0 < (k : Int) := by omega
        have hps : p.size ≤ 40 := by omega
        have hds : (⟨#[46]⟩ : ByteArray).size = 1 := rfl
        clear hk0
        go_wp2_with fail
        refine (l07Signs_any t t0 t1 _).mono ?_
        rintro e w2 ⟨v, rfl, own, hb2⟩
        have hbs := B.size
        replace own := own.rebase hbs
        replace B := B.trans (hb2.mono B.size)
        obtain ⟨av, cv, hv⟩ : ∃ ao cap, v = .slice ao (sgL t).length cap := by obtain ⟨x, y, z, _⟩ := own.ints; exact ⟨x, y, z⟩
        subst hv
        have hIn := own_ints own
        obtain ⟨L, hL⟩ : ∃ L, L = sgL t := ⟨_, rfl⟩
        have hL4 : L.length ≤ 4 := by rw [hL]; exact HLL.out
        have HLb := Lib.hid (sgL_bd t)
        rw [← hL] at hIn HLb ⊢
        have HL := Lib.hid hL
        clear hb2 own hL hck
        go_wp2_with fail
        rw [← HAp.out]
        go_loopw [3, 23] (fun s i wr => ∃ m : Nat, m ≤ L.length ∧ i = .int .i64 m ∧ s = .string (A ++ txt L m) ∧ Ints wr av L ∧ Below w.heap.size w wr) (fun _ i _ => L.length - (intOf i).toNat)
        case atStart => exact ⟨0, Nat.zero_le _, rfl, by rw [show txt L 0 = ⟨#[]⟩ from rfl, app_nil], hIn, B⟩
        case round =>
          clear hIn B
          obtain ⟨m, hm, rfl, rfl, hIn, B⟩ := hrel
          by_cases hlm : m < L.length
          · obtain ⟨b5, o5, rfl, hbl5, hc5⟩ := hIn.at hlm
            have hcm := hc5 m hlm
            obtain ⟨x1, x2⟩ := HLb.out m hlm
            have s1 := txt_size L m
            have s2 : (dB (gi L m)).size = 1 := rfl
            clear hc5
            go_wp2_with fail
            refine (l01Dec_any (gi L m) x1 x2 _).mono ?_
            rintro e w3 ⟨rfl, hb3⟩
            have HT : Hid ((A ++ txt L m) ++ dB (gi L m) = A ++ txt L (m + 1)) := Lib.hid (by rw [ByteArray.append_assoc]; rfl)
            generalize dB (gi L m) = D at s2 HT ⊢
            have s3 : (A ++ txt L m).size ≤ 45 := by rw [ByteArray.size_append]; omega
            generalize A ++ txt L m = X at s3 HT ⊢
            replace hIn := hIn.below hb3
            replace B := B.trans (hb3.mono B.size)
            clear hb3 hcm
            go_wp2
            go_roundw
            case rel => exact ⟨m + 1, by omega, by go_num, by rw [HT.out], hIn, B⟩
            case measure => simp [intOf]; omega
          · have em : Hid (m = L.length) := Lib.hid (by omega)
            go_wp2_with fail
            go_roundw
            case rel => exact ⟨k + 1, by omega, by go_num, by rw [HP.out, em.out]; unfold sTxt; rw [HL.out], B⟩
            case measure => simp [intOf]; omega
    · have ek : Hid (k = T.length) := Lib.hid (by omega)
      go_wp2_with fail
      go_ret
      exact ⟨ret_strt (by rw [ek.out]), B⟩

set_option maxHeartbeats 1000000 in
theorem spec_SlipText (ao : Option Addr) (S : List Int) (cap : Nat) (hn : S.length ≤ 4294967296) (at' : Option Addr) (T : List Int) (capt : Nat) (hnt : T.length ≤ 4294967296) (w : World) (hS : Ints w ao S) (hT : Ints w at' T) :
    Calls Try.prog 43 #[.agg #[.slice ao S.length cap], .slice at' T.length capt] w fun e w' => e = .returned (.tuple #[.string (vSlT S T), .int .i64 (eSls S [T])]) ∧ Below w.heap.size w w' := by
  obtain ⟨W, hW⟩ : ∃ W, W = w.alloc (.cells #[.slice ao S.length cap] 26) := ⟨_, rfl⟩
  have hWs : W.heap.size = w.heap.size + 1 := by rw [hW]; simp
  have B0 : Below w.heap.size w W := by rw [hW]; go_grown
  have HW := Lib.hid hW
  clear hW
  have hsl := slips_one (c := capt) hnt (hT.below B0) 51 hWs.symm
  have B1 := B0.alloc B0.size (.cells #[.slice at' T.length capt] 51)
  by_cases hz : eSls S [T] = 0
  · obtain ⟨hSp, hSl⟩ := eSls1 hz
    have hlen := hSl.len
    have hhi := hSp.hi
    have hT8 : T.length ≤ 8 := by omega
    have HSl := Lib.hid hSl
    have HV : Hid (vSlT S T = pTxt T T.length) := Lib.hid (by unfold vSlT; rw [if_pos hz])
    have HZ := Lib.hid hz
    have hzn : (eSls S [T] != 0) = false := by simp [hz]
    clear hz hSp hSl hlen
    go_enter Try.func43, Try.ntmps43
    go_wp2_with fail
    rw [← HW.out]
    refine (l07Code_any ao S cap hn _ [T] 1 1 rfl (by simp) _ (hS.below B1) hsl).mono ?_
    rintro e w1 ⟨rfl, hb⟩
    have B2 := B1.trans (hb.mono B1.size)
    clear hb hsl B1
    go_wp2_with fail
    refine (l07Text_any at' T capt hT8 (fun k hk => sl_bdt HSl.out hk) _ (hT.below B2)).mono ?_
    rintro e w2 ⟨rfl, hb⟩
    go_wp2_with fail
    go_ret2
    exact ⟨ret_sit HV.out.symm HZ.out.symm, B2.trans (hb.mono B2.size)⟩
  · have HV : Hid (vSlT S T = ⟨#[]⟩) := Lib.hid (by unfold vSlT; rw [if_neg hz])
    have hzn : (eSls S [T] != 0) = true := by simpa using hz
    clear hz
    go_enter Try.func43, Try.ntmps43
    go_wp2_with fail
    rw [← HW.out]
    refine (l07Code_any ao S cap hn _ [T] 1 1 rfl (by simp) _ (hS.below B1) hsl).mono ?_
    rintro e w1 ⟨rfl, hb⟩
    go_wp2_with fail
    go_ret2
    exact ⟨ret_sit HV.out.symm rfl, B1.trans (hb.mono B1.size)⟩

theorem digitsText_t (a : Option Addr) (L : List Int) (n c : Nat) (e : L.length = n) (hl : n ≤ 16777216) (hbd : ∀ i, i < n → 0 ≤ gi L i ∧ gi L i ≤ 9) (w : World) (hL : Ints w a L) :
    Calls Try.prog 96 #[.slice a n c] w fun e w' => e = .returned (.string (txt L n)) ∧ Below w.heap.size w w' := by
  subst e; exact digitsText_any a L c hl hbd w hL

set_option maxHeartbeats 2000000 in
theorem impl_SlipText (ao : Option Addr) (S : List Int) (cap : Nat) (hn : S.length ≤ 4294967296) (at' : Option Addr) (T : List Int) (capt : Nat) (hnt : T.length ≤ 4294967296) (w : World) (hS : Ints w ao S) (hT : Ints w at' T) :
    Calls Try.prog 44 #[.agg #[.slice ao S.length cap], .slice at' T.length capt] w fun e w' => e = .returned (.tuple #[.string (vSlT S T), .int .i64 (eSls S [T])]) ∧ Below w.heap.size w w' := by
  obtain ⟨i0, hi, hz0, hz1, hz2⟩ := info_parts infoStrt
  obtain ⟨W, hW⟩ : ∃ W, W = w.alloc (.cells #[.slice ao S.length cap] 26) := ⟨_, rfl⟩
  have hWs : W.heap.size = w.heap.size + 1 := by rw [hW]; simp
  have B0 : Below w.heap.size w W := by rw [hW]; go_grown
  have HW := Lib.hid hW
  clear hW
  have hsl := slips_one (c := capt) hnt (hT.below B0) 51 hWs.symm
  have B1 := B0.alloc B0.size (.cells #[.slice at' T.length capt] 51)
  by_cases hz : eSls S [T] = 0
  case neg =>
    have HV : Hid (vSlT S T = ⟨#[]⟩) := Lib.hid (by unfold vSlT; rw [if_neg hz])
    have hzn : (eSls S [T] != 0) = true := by simpa using hz
    clear hz hi hz0 hz1 hz2
    go_enter Try.func44, Try.ntmps44
    go_wp2_with fail
    rw [← HW.out]
    refine (slipsError_any ao S cap hn _ [T] 1 1 rfl (by simp) _ (hS.below B1) hsl).mono ?_
    rintro e w1 ⟨rfl, hb⟩
    go_wp2_with fail
    go_ret2
    exact ⟨ret_sit HV.out.symm rfl, B1.trans (hb.mono B1.size)⟩
  obtain ⟨hSp, hSl⟩ := eSls1 hz
  have hlen := hSl.len
  have hhi := hSp.hi
  have hT8 : T.length ≤ 8 := by omega
  have HSl := Lib.hid hSl
  have HV : Hid (vSlT S T = pTxt T T.length) := Lib.hid (by unfold vSlT; rw [if_pos hz])
  have HZ := Lib.hid hz
  have hzn : (eSls S [T] != 0) = false := by simp [hz]
  clear hz hSp hSl hlen
  go_enter Try.func44, Try.ntmps44
  go_wp2_with fail
  rw [← HW.out]
  refine (slipsError_any ao S cap hn _ [T] 1 1 rfl (by simp) _ (hS.below B1) hsl).mono ?_
  rintro e w1 ⟨rfl, hb⟩
  have B2 := B1.trans (hb.mono B1.size)
  clear hb hsl B1 B0 hWs
  go_wp2_with (at_make; refine wpList_make_full _ rfl _ _ 100 rfl w1.heap.size 9 i0 (.string ⟨#[]⟩) 1 Try.underlying100 hi hz0 hz1 .i64 .i64 _ _ T.length rfl rfl rfl rfl (by rw [hz2]; omega) (by unfold maxLen; omega) (Nat.le_refl _) ?_; intro w3 hown hgrow)
  have hb2 := below_grown0 hgrow
  have B3 := B2.trans (hb2.mono B2.size)
  have sG := B2.size
  clear hb2 B2 hzn
  obtain ⟨G, hG⟩ : ∃ G, G = w1.heap.size := ⟨_, rfl⟩
  rw [← hG] at hown sG ⊢
  obtain ⟨V0, hV0⟩ : ∃ V0, V0 = (madeCells (Value.string ⟨#[]⟩).cells (T.length * 1)).toList := ⟨_, rfl⟩
  rw [← hV0] at hown
  have hVl : V0.length = T.length := by simpa using hown.1
  have hGl : G < w3.heap.size := by
    rcases hown.2 with ⟨h, _⟩ | ⟨g', cap', cur, h', _, hh, _⟩
    · simp at h
    · simp only [Value.slice.injEq, Option.some.injEq, Addr.mk.injEq, and_true] at h'
      rw [h'.1]; exact (Array.getElem?_eq_some_iff.1 hh).1
  clear hgrow hV0 hi hz0 hz1 hz2 hG
  go_loopw [22] (fun i wr => ∃ (k : Nat) (V : List Value), k ≤ T.length ∧ i = .int .i64 k ∧ wr.ownsRow G 9 1 (.slice (some ⟨G, 0, none⟩) T.length T.length) T.length V ∧ Hid (V.length = T.length ∧ ∀ j, j < k → V[j]? = some (.string (sTxt (gi T j)))) ∧ G < wr.heap.size ∧ Below w.heap.size w wr) (fun i _ => T.length - (intOf i).toNat)
  case atStart => exact ⟨0, V0, Nat.zero_le _, rfl, hown, Lib.hid ⟨hVl, fun j h => by omega⟩, hGl, B3⟩
  case round =>
    clear hown hVl hGl B3
    obtain ⟨k, V, hk, rfl, hown, HV2, lG, B⟩ := hrel
    by_cases hlt : k < T.length
    · obtain ⟨b, o, rfl, hbl, hc⟩ := hT.at hlt
      have hck := kept_cell B (hc k hlt) hbl
      obtain ⟨t0, t1⟩ := sl_bdt HSl.out hlt
      clear hc
      go_wp2_with fail
      refine (membersS_any (gi T k) t0 t1 _).mono ?_
      rintro e w4 ⟨v, rfl, own, hb4⟩
      replace hown := hown.kept (grown_of_below hb4 none) (.inr (by simp [Value.ownBlock]))
      replace lG := lt_of_below hb4 lG
      replace B := B.trans (hb4.mono B.size)
      obtain ⟨av, cv, hv⟩ : ∃ ao cap, v = .slice ao (sgL (gi T k)).length cap := by obtain ⟨x, y, z, _⟩ := own.ints; exact ⟨x, y, z⟩
      subst hv
      have hIn := own_ints own
      have HX := Lib.hid (show txt (sgL (gi T k)) (sgL (gi T k)).length = sTxt (gi T k) from rfl)
      have hL4 : (sgL (gi T k)).length ≤ 4 := selL_len _ _
      have HB := Lib.hid (sgL_bd (gi T k))
      obtain ⟨L, hL⟩ : ∃ L, L = sgL (gi T k) := ⟨_, rfl⟩
      rw [← hL] at hIn HX hL4 HB ⊢
      clear hb4 own hL hck
      go_wp2_with fail
      refine (digitsText_t _ L L.length _ rfl (by omega) HB.out _ hIn).mono ?_
      rintro e w5 ⟨rfl, hb5⟩
      rw [HX.out]
      have hown5 := hown.kept (grown_of_below hb5 none) (.inr (by simp [Value.ownBlock]))
      have lG5 := lt_of_below hb5 lG
      have B5 := B.trans (hb5.mono B.size)
      obtain ⟨vk, hcellV⟩ : ∃ vk, w5.cell? ⟨G, k, none⟩ = some vk := by
        rw [hown5.cellAt k (by omega)]
        exact ⟨_, List.getElem?_eq_getElem (by rw [HV2.out.1]; exact hlt)⟩
      have hfreeV := hown5.frozenAt k
      have st := (hown5.stored k (.string (sTxt (gi T k)))).1
      clear hb5 hown B lG hIn
      go_wp2_with fail
      go_roundw
      case rel =>
        refine ⟨k + 1, _, by omega, by go_num, st, Lib.hid ⟨by rw [List.length_set]; exact HV2.out.1, fun j hj => ?_⟩, by simpa using lG5, B5.setCell (by simp; omega) _⟩
        by_cases e : j = k
        · subst e; rw [List.getElem?_set_self (by rw [HV2.out.1]; exact hlt)]
        · rw [List.getElem?_set_ne (fun h => e h.symm)]; exact HV2.out.2 j (by omega)
      case measure => simp [intOf]; omega
    · have HK := Lib.hid (show k = T.length by omega)
      have hsz := pTxt_size T T.length
      have hj := pTxt_join T T.length
      have HX : Hid (((List.range T.length).map fun j => sTxt (gi T j)).map (·.data.toList) = (List.range T.length).map fun j => (sTxt (gi T j)).data.toList) := Lib.hid (by rw [List.map_map]; rfl)
      have HJ : Hid ((⟨(Lib.join (((List.range T.length).map fun j => sTxt (gi T j)).map (·.data.toList)) dot.data.toList).toArray⟩ : ByteArray) = pTxt T T.length) := Lib.hid (by rw [HX.out, ← hj])
      have HL : Hid ((Lib.join (((List.range T.length).map fun j => sTxt (gi T j)).map (·.data.toList)) dot.data.toList).length ≤ 140737488355328) := Lib.hid (by
        rw [hj] at hsz
        have : (Lib.join ((List.range T.length).map fun j => (sTxt (gi T j)).data.toList) dot.data.toList).toArray.size ≤ 5 * T.length := hsz
        rw [HX.out]
        simp only [List.size_toArray] at this
        omega)
      clear hj hsz
      go_wp2_with fail
      refine (join_t G T.length T.length ((List.range T.length).map fun j => sTxt (gi T j)) (by simp) _ (fun j x hx => by
        have hjl : j < T.length := by
          have := (List.getElem?_eq_some_iff.1 hx).1
          simpa using this
        rw [List.getElem?_map, List.getElem?_range hjl] at hx
        simp only [Option.map_some, Option.some.injEq] at hx
        rw [Nat.zero_add, hown.cellAt j (by omega), HV2.out.2 j (by have := HK.out; omega), hx]) lG (by omega) (Nat.le_refl _) HL.out).mono ?_
      rintro e w5 ⟨rfl, hb5⟩
      go_wp2_with fail
      go_ret2
      exact ⟨ret_sit (by rw [HV.out, ← List.map_map]; exact HJ.out) HZ.out.symm, B.trans (hb5.mono B.size)⟩

end Go.Proofs.Ytcbkmmadejbbpaa

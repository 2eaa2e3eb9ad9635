/-
  Merged texts: HcA, HcI, HcS. Never import this beside one of them. By an AI agent.
-/
import Derived.Test.YtpmfedllbiblbaaGreatPk45
import Derived.Test.YtpmfedllbiblbaaGreatPkChoA
import Derived.Test.YtpmfedllbiblbaaGreatPkRer10
import Derived.Test.YtpmfedllbiblbaaGreatPk49
import Derived.Test.YtpmfedllbiblbaaGreatPk50
import Derived.Test.YtpmfedllbiblbaaGreatPkCode
import Derived.Shelf.Abstract
import Derived.Deep.RegionHeld3
import Derived.Test.YtpmfedllbiblbaaGreatPkFar
import Derived.Test.YtpmfedllbiblbaaGreatPkErr
import Derived.Test.YtpmfedllbiblbaaGreatPkMathB
import Derived.Test.YtpmfedllbiblbaaGreatPkRow10
import Derived.Test.YtpmfedllbiblbaaGreatPkFam
namespace Go.Proofs.YtpmfedllbiblbaaGreat
open Go.RowKit Go.Shelf Cv
set_option linter.unusedVariables false
set_option linter.unusedSimpArgs false
set_option maxRecDepth 100000

/-- the rules: few places, places of the space in order, digits of the places -/
def fewB (S : List Int) (t : Nat) : Bool := decide (1 ≤ t ∧ t ≤ 3 ∧ t ≤ S.length)
def outB (n : Nat) (x : Int) : Bool := decide (x < 0 ∨ (n : Int) ≤ x)
def plcB (S P : List Int) : Bool := ascB P P.length && !P.any (outB S.length)
def ch10B (S L : List Int) : Bool := fewB S (L.length / 2) && plcB S (L.take (L.length / 2)) && dgB (szP S (L.take (L.length / 2))) (L.drop (L.length / 2))
def eCh10 (S L : List Int) : Int := if isSp S = true then (if ch10B S L = true then 0 else 2) else 1

theorem ints_takeH {w : World} {g o : Nat} {T : List Int} (h : Ints w (some ⟨g, o, none⟩) T) (k : Nat) : Ints w (some ⟨g, o, none⟩) (T.take k) := by
  rcases h with h | ⟨b, o', he, hlt, hc⟩
  · exact .inl (by simp [h])
  · cases he
    refine .inr ⟨_, _, rfl, hlt, fun i hi => ?_⟩
    rw [List.length_take] at hi
    rw [gi_take T k i (by omega)]
    exact hc i (by omega)
theorem ints_dropH {w : World} {g o : Nat} {T : List Int} (h : Ints w (some ⟨g, o, none⟩) T) (k : Nat) : Ints w (some ⟨g, o + k, none⟩) (T.drop k) := by
  rcases h with h | ⟨b, o', he, hlt, hc⟩
  · exact .inl (by simp [h])
  · cases he
    refine .inr ⟨_, _, rfl, hlt, fun i hi => ?_⟩
    rw [List.length_drop] at hi
    have e2 : gi (T.drop k) i = gi T (k + i) := by simp [gi]
    rw [e2, Nat.add_assoc]
    exact hc _ (by omega)


theorem indexFunc_hc (a : Option Addr) (cap : Nat) (L : List Int) (f : Nat) (eg : ∀ args w, (callFunc f args).run Tryz.prog w = .ok (.enter f args) w) (pre post : Array Value) (q : Int → Bool) (w : World) (hl : L.length ≤ 4294967296)
    (hrow : Ints w a L) (hp : PredN f pre post q w.heap.size w L) :
    Calls Tryz.prog 136 #[.slice a L.length cap, .func (.func f) pre post] w fun e w' => ∃ r : Int, e = .returned (.int .i64 r) ∧ Below w.heap.size w w' ∧ Hid (decide (0 ≤ r) = L.any q) := by
  have HP := Lib.hid hp
  clear hp
  go_enter Tryz.func136, Tryz.ntmps136
  go_wp2_with fail
  go_loopw [8] (fun i wr => ∃ k : Nat, k ≤ L.length ∧ i = .int .i64 k ∧ Below w.heap.size w wr ∧ Hid (∀ j, j < k → q (gi L j) = false)) (fun i _ => L.length - (intOf i).toNat)
  case atStart => exact ⟨0, Nat.zero_le _, rfl, Below.refl _ _, Lib.hid fun j hj => by omega⟩
  case round =>
    obtain ⟨k, hk, rfl, B, HA⟩ := hrel
    by_cases hlt : k < L.length
    · obtain ⟨b, o, rfl, hbl, hcc⟩ := hrow.at hlt
      have hc := kept_cell B (hcc k hlt) hbl
      have hcall := HP.out wr (gi L k) B (gi_mem hlt)
      have hs := B.size
      clear hcc
      cases hq : q (gi L k) with
      | true =>
        rw [hq] at hcall
        have HQ := Lib.hid hq
        clear hq
        go_wp2_with fail
        refine hcall.mono ?_
        rintro e w2 ⟨rfl, hb⟩
        go_wp2_with fail
        go_ret
        refine ⟨k, rfl, B.trans (hb.mono hs), Lib.hid ?_⟩
        rw [decide_eq_true (by omega), eq_comm, List.any_eq_true]
        exact ⟨_, gi_mem hlt, HQ.out⟩
      | false =>
        rw [hq] at hcall
        have HQ := Lib.hid hq
        clear hq
        go_wp2_with fail
        refine hcall.mono ?_
        rintro e w2 ⟨rfl, hb⟩
        go_wp2_with fail
        go_roundw
        case rel =>
          refine ⟨k + 1, by omega, by go_num, B.trans (hb.mono hs), Lib.hid fun j hj => ?_⟩
          by_cases e : j = k
          · subst e; exact HQ.out
          · exact HA.out j (by omega)
        case measure => simp [intOf]; omega
    · have ek : Hid (k = L.length) := Lib.hid (by omega)
      go_wp2_with fail
      go_ret
      refine ⟨-1, rfl, B, Lib.hid ?_⟩
      rw [decide_eq_false (by omega), eq_comm, ← Bool.not_eq_true, List.any_eq_true]
      rintro ⟨x, hx, hq⟩
      obtain ⟨j, hj, e⟩ := mem_gi hx
      have := HA.out j (by have := ek.out; omega)
      rw [e, hq] at this; cases this

theorem containsFunc_hc (a : Option Addr) (cap : Nat) (L : List Int) (f : Nat) (eg : ∀ args w, (callFunc f args).run Tryz.prog w = .ok (.enter f args) w) (pre post : Array Value) (q : Int → Bool) (w : World) (hl : L.length ≤ 4294967296)
    (hrow : Ints w a L) (hp : PredN f pre post q w.heap.size w L) :
    Calls Tryz.prog 120 #[.slice a L.length cap, .func (.func f) pre post] w fun e w' => e = .returned (.bool (L.any q)) ∧ Below w.heap.size w w' := by
  have hidx := indexFunc_hc a cap L f eg pre post q w hl hrow hp
  clear hp hrow
  go_enter Tryz.func120, Tryz.ntmps120
  go_wp2_with fail
  refine hidx.mono ?_
  rintro e w1 ⟨r, rfl, hb, H⟩
  go_wp2_with fail
  go_ret
  exact ⟨ret_bool H.out, hb⟩

theorem few_any (ao : Option Addr) (S : List Int) (cap : Nat) (ap : Option Addr) (t ct : Nat) (ad : Option Addr) (d cd : Nat) (ht : t ≤ 4294967296) (w : World) :
    Calls Tryz.prog 110 #[.agg #[.slice ao S.length cap, .slice ap t ct, .slice ad d cd]] w fun e w' => e = .returned (.bool (fewB S t)) ∧ Below w.heap.size w w' := by
  obtain ⟨M, hM⟩ : ∃ M : Int, M = min 3 (S.length : Int) := ⟨_, rfl⟩
  have B0 : Below w.heap.size w (w.alloc (.cells #[.slice ao S.length cap, .slice ap t ct, .slice ad d cd] 64)) := by go_grown
  have hg := greatestStrength_any ao S cap M hM (w.alloc (.cells #[.slice ao S.length cap, .slice ap t ct, .slice ad d cd] 64))
  by_cases h1 : 1 ≤ t
  · by_cases h2 : (t : Int) ≤ M
    · have HF : Hid (fewB S t = true) := Lib.hid (by unfold fewB; rw [decide_eq_true_eq]; omega)
      have h1I : (1 : Int) ≤ (t : Int) := by omega
      clear hM
      go_enter Tryz.func110, Tryz.ntmps110
      go_wp2_with fail
      refine hg.mono ?_
      rintro e w1 ⟨rfl, hb⟩
      go_wp2_with fail
      go_ret
      exact ⟨ret_bool HF.out.symm, B0.trans (hb.mono B0.size)⟩
    · have HF : Hid (fewB S t = false) := Lib.hid (by unfold fewB; rw [decide_eq_false_iff_not]; omega)
      have h1I : (1 : Int) ≤ (t : Int) := by omega
      clear hM
      go_enter Tryz.func110, Tryz.ntmps110
      go_wp2_with fail
      refine hg.mono ?_
      rintro e w1 ⟨rfl, hb⟩
      go_wp2_with fail
      go_ret
      exact ⟨ret_bool (by rw [HF.out, decide_eq_false_iff_not]; omega), B0.trans (hb.mono B0.size)⟩
  · have HF : Hid (fewB S t = false) := Lib.hid (by unfold fewB; rw [decide_eq_false_iff_not]; omega)
    have h1I : ¬ (1 : Int) ≤ (t : Int) := by omega
    clear hM hg
    go_enter Tryz.func110, Tryz.ntmps110
    go_wp2_with fail
    go_ret
    exact ⟨ret_bool HF.out.symm, B0⟩

/-- the closure that tells places of no space -/
theorem outB_any (ao : Option Addr) (S : List Int) (cap b : Nat) (x : Int) (hn : S.length ≤ 4294967296) (w : World) (hc : w.cell? ⟨b, 0, none⟩ = some (.slice ao S.length cap)) :
    Calls Tryz.prog 118 #[.int .i64 x, .pointer (some ⟨b, 0, none⟩)] w fun e w' => e = .returned (.bool (outB S.length x)) ∧ Below w.heap.size w w' := by
  by_cases h : x < 0
  · have HF : Hid (outB S.length x = true) := Lib.hid (by unfold outB; rw [decide_eq_true_eq]; exact .inl h)
    go_enter Tryz.func118, Tryz.ntmps118
    go_wp2_with fail
    go_ret
    exact ⟨ret_bool HF.out.symm, Below.refl _ _⟩
  · by_cases h2 : (S.length : Int) ≤ x
    · have HF : Hid (outB S.length x = true) := Lib.hid (by unfold outB; rw [decide_eq_true_eq]; exact .inr h2)
      go_enter Tryz.func118, Tryz.ntmps118
      go_wp2_with fail
      go_ret
      exact ⟨ret_bool HF.out.symm, Below.refl _ _⟩
    · have HF : Hid (outB S.length x = false) := Lib.hid (by unfold outB; rw [decide_eq_false_iff_not]; omega)
      go_enter Tryz.func118, Tryz.ntmps118
      go_wp2_with fail
      go_ret
      exact ⟨ret_bool HF.out.symm, Below.refl _ _⟩

theorem hasPlaces_any (ao : Option Addr) (S : List Int) (cap : Nat) (hn : S.length ≤ 4294967296) (ap : Option Addr) (P : List Int) (ct : Nat) (hP : P.length ≤ 4294967296) (ad : Option Addr) (d cd : Nat) (w : World) (hPI : Ints w ap P) :
    Calls Tryz.prog 111 #[.agg #[.slice ao S.length cap, .slice ap P.length ct, .slice ad d cd]] w fun e w' => e = .returned (.bool (plcB S P)) ∧ Below w.heap.size w w' := by
  obtain ⟨W, hW⟩ : ∃ W, W = w.alloc (.cells #[.slice ao S.length cap, .slice ap P.length ct, .slice ad d cd] 64) := ⟨_, rfl⟩
  have B0 : Below w.heap.size w W := by rw [hW]; go_grown
  have r0 : W.heap[w.heap.size]? = some (.cells #[.slice ao S.length cap, .slice ap P.length ct, .slice ad d cd] 64 (0, 0)) := by rw [hW]; exact heap_alloc_new _ _
  have c0 : W.cell? ⟨w.heap.size, 0, none⟩ = some (.slice ao S.length cap) := by rw [cell_of_row W _ 0 _ _ _ r0]; rfl
  have c1 : W.cell? ⟨w.heap.size, 1, none⟩ = some (.slice ap P.length ct) := by rw [cell_of_row W _ 1 _ _ _ r0]; rfl
  have l0 : w.heap.size < W.heap.size := (Array.getElem?_eq_some_iff.1 r0).1
  have HW := Lib.hid hW
  clear hW r0
  cases ha : ascB P P.length with
  | false =>
    have HF : Hid (plcB S P = false) := Lib.hid (by unfold plcB; rw [ha]; rfl)
    have hasc := isStrictlyAscending_any ap P ct hP W (hPI.below B0)
    rw [ha] at hasc
    clear ha
    go_enter Tryz.func111, Tryz.ntmps111
    go_wp2_with fail
    rw [← HW.out]
    go_wp2_with fail
    refine hasc.mono ?_
    rintro e w1 ⟨rfl, hb⟩
    go_wp2_with fail
    go_ret
    exact ⟨ret_bool HF.out.symm, B0.trans (hb.mono B0.size)⟩
  | true =>
    have HF : Hid (plcB S P = !P.any (outB S.length)) := Lib.hid (by unfold plcB; rw [ha]; rfl)
    have hasc := isStrictlyAscending_any ap P ct hP W (hPI.below B0)
    rw [ha] at hasc
    clear ha
    go_enter Tryz.func111, Tryz.ntmps111
    go_wp2_with fail
    rw [← HW.out]
    go_wp2_with fail
    refine hasc.mono ?_
    rintro e w1 ⟨rfl, hb⟩
    have B1 := B0.trans (hb.mono B0.size)
    have c0' := kept_cell hb c0 l0
    have c1' := kept_cell hb c1 l0
    have l1 := lt_of_below hb l0
    have hcf := containsFunc_hc ap ct P 118 (enters_of Tryz.func118 (by kernel_rfl) rfl) #[] #[.pointer (some ⟨w.heap.size, 0, none⟩)] (outB S.length) w1 hP (hPI.below B1)
      (fun V x hV _ => outB_any ao S cap w.heap.size x hn V (kept_cell hV c0' l1))
    clear hb c0 c1 hasc
    go_wp2_with fail
    refine hcf.mono ?_
    rintro e w2 ⟨rfl, hb2⟩
    go_wp2_with fail
    go_ret
    exact ⟨ret_bool HF.out.symm, B1.trans (hb2.mono B1.size)⟩

set_option maxHeartbeats 1000000 in
theorem hasDigits_any (ao : Option Addr) (S : List Int) (cap : Nat) (hn1 : 1 ≤ S.length) (hS8 : S.length ≤ 8) (g o t ct : Nat) (P : List Int) (hPl : P.length = t) (ht : t ≤ 8) (hP : ∀ k, k < t → 0 ≤ gi P k ∧ gi P k < S.length) (ad : Option Addr) (D : List Int) (cd : Nat) (hD : D.length ≤ 4294967296) (w : World)
    (hS : Ints w ao S) (hPI : Ints w (some ⟨g, o, none⟩) P) (hDI : Ints w ad D) :
    Calls Tryz.prog 112 #[.agg #[.slice ao S.length cap, .slice (some ⟨g, o, none⟩) t ct, .slice ad D.length cd]] w fun e w' => e = .returned (.bool (dgB (szP S P) D)) ∧ Below w.heap.size w w' := by
  obtain ⟨W, hW⟩ : ∃ W, W = w.alloc (.cells #[.slice ao S.length cap, .slice (some ⟨g, o, none⟩) t ct, .slice ad D.length cd] 64) := ⟨_, rfl⟩
  have B0 : Below w.heap.size w W := by rw [hW]; go_grown
  have r0 : W.heap[w.heap.size]? = some (.cells #[.slice ao S.length cap, .slice (some ⟨g, o, none⟩) t ct, .slice ad D.length cd] 64 (0, 0)) := by rw [hW]; exact heap_alloc_new _ _
  have c0 : W.cell? ⟨w.heap.size, 0, none⟩ = some (.slice ao S.length cap) := by rw [cell_of_row W _ 0 _ _ _ r0]; rfl
  have c1 : W.cell? ⟨w.heap.size, 1, none⟩ = some (.slice (some ⟨g, o, none⟩) t ct) := by rw [cell_of_row W _ 1 _ _ _ r0]; rfl
  have c2 : W.cell? ⟨w.heap.size, 2, none⟩ = some (.slice ad D.length cd) := by rw [cell_of_row W _ 2 _ _ _ r0]; rfl
  have l0 : w.heap.size < W.heap.size := (Array.getElem?_eq_some_iff.1 r0).1
  have hszl : (szP S P).length = t := by rw [szP_len, hPl]
  have hadd := fun (gq : Nat) (V : World) (h1 : Ints V (some ⟨gq, 0, none⟩) (szP S P)) (h2 : Ints V ad D) => areDigits_any (some ⟨gq, 0, none⟩) (szP S P) t (by rw [hszl]; omega) ad D cd hD V h1 h2
  rw [hszl] at hadd
  have HW := Lib.hid hW
  clear hW r0
  go_enter Tryz.func112, Tryz.ntmps112
  go_wp2_with fail
  rw [← HW.out]
  go_region_held3 (fun w' => w'.cell? ⟨w.heap.size, 0, none⟩ = some (.slice ao S.length cap) ∧ w'.cell? ⟨w.heap.size, 1, none⟩ = some (.slice (some ⟨g, o, none⟩) t ct) ∧ w'.cell? ⟨w.heap.size, 2, none⟩ = some (.slice ad D.length cd))
    (first | exact ⟨c0, c1, c2⟩ | exact ⟨kept_cell hb7 c0 l0, kept_cell hb7 c1 l0, kept_cell hb7 c2 l0⟩ | exact ⟨kept_cell hb79 c0 l0, kept_cell hb79 c1 l0, kept_cell hb79 c2 l0⟩)
    (first | (go_at_call 84; refine (partOf_any ao S cap hn1 hS8 g o t ct P hPl ht hP _ (hS.below B0.drew) (hPI.below B0.drew)).mono ?_; rintro e w8 ⟨gq, rfl, oq, hb7'⟩; have hb7 : Below W.heap.size W w8 := (Below.refl W.heap.size W).drew.trans hb7') | (go_at_call 121; refine (hadd gq _ (own_ints oq) ((hDI.below B0).below hb7)).mono ?_; rintro e w9 ⟨rfl, hb8⟩; have hb79 : Below W.heap.size W w9 := hb7.trans (hb8.mono hb7.size)))
  have B2 := B0.trans (hb79.mono B0.size)
  go_wp2_with fail
  go_ret
  exact ⟨rfl, B2⟩

theorem rules_any (w : World) :
    Calls Tryz.prog 96 #[] w fun e w' => ∃ G, e = .returned (.slice (some ⟨G, 0, none⟩) 3 3) ∧ (w'.cell? ⟨G, 0, none⟩ = some (.func (.func 110) #[] #[]) ∧ w'.cell? ⟨G, 1, none⟩ = some (.func (.func 111) #[] #[]) ∧ w'.cell? ⟨G, 2, none⟩ = some (.func (.func 112) #[] #[])) ∧ G < w'.heap.size ∧ Below w.heap.size w w' := by
  go_enter Tryz.func96, Tryz.ntmps96
  go_wp2_with fail
  go_ret
  exact ⟨_, rfl, ⟨by simp, by simp, by simp⟩, by simp, by go_grown⟩

set_option maxHeartbeats 2000000 in
theorem choiceOf_0 (ao : Option Addr) (n cap g m c : Nat) (hm : m ≤ 1) (hmc : m ≤ c) (hc : c ≤ 9223372036854775807) (w : World) :
    Calls Tryz.prog 65 #[.agg #[.slice ao n cap], .slice (some ⟨g, 0, none⟩) m c] w fun e w' => e = .returned (.agg #[.slice ao n cap, .slice (some ⟨g, 0, none⟩) 0 0, .slice (some ⟨g, 0, none⟩) m c]) ∧ Below w.heap.size w w' := by
  have e2 : (m : Int).tdiv 2 = 0 := by rw [Int.tdiv_eq_ediv_of_nonneg (by omega)]; omega
  have mI : (0 : Int) ≤ (m : Int) := by omega
  have cI : (0 : Int) ≤ (c : Int) := by omega
  obtain ⟨W, hW⟩ : ∃ W, W = (w.alloc (.cells #[.slice ao n cap] 26)).alloc (.cells #[.slice none 0 0, .slice none 0 0, .slice none 0 0] 64) := ⟨_, rfl⟩
  have B0 : Below w.heap.size w W := by rw [hW]; go_grown
  have c0 : W.cell? ⟨w.heap.size, 0, none⟩ = some (.slice ao n cap) := by
    rw [hW]; exact kept_cell ((Below.refl _ (w.alloc (.cells #[.slice ao n cap] 26))).alloc (Nat.le_refl _) _) (cell_new _ _ _) (by simp)
  have r1 : W.heap[w.heap.size + 1]? = some (.cells #[.slice none 0 0, .slice none 0 0, .slice none 0 0] 64 (0, 0)) := by
    have e : (w.alloc (.cells #[.slice ao n cap] 26)).heap.size = w.heap.size + 1 := by simp
    rw [hW, ← e]; exact heap_alloc_new _ _
  have HW := Lib.hid hW
  clear hW
  go_enter Tryz.func65, Tryz.ntmps65
  go_wp2_with fail
  rw [← HW.out]
  go_still_tail 9, (by kernel_rfl)
  change wpList _ _ _ _ _ W.drew
  refine wpList_store_row rfl _ _ _ rfl (w.heap.size + 1) _ rfl rfl 64 _ r1 infoCh rfl (by simp [Value.oneCell']) ?_
  have hg : W.drew.grownBy (W.drew.setRow (w.heap.size + 1) #[.slice ao n cap, .slice (some ⟨g, 0, none⟩) 0 0, .slice (some ⟨g, 0, none⟩) m c]) (some (w.heap.size + 1)) := grown_setRowC _
  have B1 := B0.drew.grown hg (by have := B0.size; exact this) (fun j e => by cases e; omega)
  have r2 : (W.drew.setRow (w.heap.size + 1) #[.slice ao n cap, .slice (some ⟨g, 0, none⟩) 0 0, .slice (some ⟨g, 0, none⟩) m c]).heap[w.heap.size + 1]? = some (.cells #[.slice ao n cap, .slice (some ⟨g, 0, none⟩) 0 0, .slice (some ⟨g, 0, none⟩) m c] 64 (0, 0)) := setRow_heap W.drew (w.heap.size + 1) _ _ _ _ r1
  clear c0 hg
  go_wp2_with fail
  refine bodyPost_ret (v := .agg #[.slice ao n cap, .slice (some ⟨g, 0, none⟩) 0 0, .slice (some ⟨g, 0, none⟩) m c]) (results_cell_row (P := Tryz.prog) rfl _ _ (w.heap.size + 1) _ _ _ _ rfl r2 Tryz.underlying64 rfl infoCh) rfl ?_
  exact ⟨rfl, B1⟩

theorem choiceOf_u (ao : Option Addr) (n cap g m c t : Nat) (ht : m / 2 = t) (hmc : m ≤ c) (hm9 : m ≤ 4294967296) (hc : c ≤ 9223372036854775807) (w : World) :
    Calls Tryz.prog 65 #[.agg #[.slice ao n cap], .slice (some ⟨g, 0, none⟩) m c] w fun e w' => e = .returned (.agg #[.slice ao n cap, .slice (some ⟨g, 0, none⟩) t t, .slice (some ⟨g, t, none⟩) (m - t) (c - t)]) ∧ Below w.heap.size w w' := by
  by_cases h0 : 0 < t
  · have := choiceOf_any ao n cap g 0 m c t h0 ht hmc hm9 hc w
    unfold chV at this
    rw [Nat.zero_add] at this
    exact this
  · obtain rfl : t = 0 := by omega
    exact choiceOf_0 ao n cap g m c (by omega) hmc hc w

def rN10 (k : Nat) : Nat := if k = 0 then 110 else if k = 1 then 111 else 112
theorem plcB_in {S P : List Int} (h : plcB S P = true) : ∀ k, k < P.length → 0 ≤ gi P k ∧ gi P k < S.length := fun k hk => by
  unfold plcB at h
  simp only [Bool.and_eq_true, Bool.not_eq_true', List.any_eq_false] at h
  have := h.2 _ (gi_mem hk)
  unfold outB at this
  rw [decide_eq_true_eq] at this
  omega

set_option maxHeartbeats 4000000 in
theorem choiceError_any (ao : Option Addr) (S : List Int) (cap : Nat) (hn : S.length ≤ 4294967296) (g : Nat) (L : List Int) (c : Nat) (hL : L.length ≤ 4294967296) (hmc : L.length ≤ c) (hc : c ≤ 9223372036854775807) (w : World) (hS : Ints w ao S) (hLI : Ints w (some ⟨g, 0, none⟩) L) :
    Calls Tryz.prog 64 #[.agg #[.slice ao S.length cap], .slice (some ⟨g, 0, none⟩) L.length c] w fun e w' => e = .returned (.int .i64 (eCh10 S L)) ∧ Below w.heap.size w w' := by
  have B0 : Below w.heap.size w (w.alloc (.cells #[.slice ao S.length cap] 26)) := by go_grown
  have c0 := cell_new w (.slice ao S.length cap) 26
  have l0 := lt_alloc w (.cells #[.slice ao S.length cap] 26)
  have hi := IsSpace_any ao S cap (w.alloc (.cells #[.slice ao S.length cap] 26)) hn (hS.below B0)
  cases h : isSp S with
  | false =>
    rw [h] at hi
    have HE : Hid (eCh10 S L = 1) := Lib.hid (by unfold eCh10; rw [h]; rfl)
    clear h
    go_enter Tryz.func64, Tryz.ntmps64
    go_wp2_with fail
    refine hi.mono ?_
    rintro e w1 ⟨rfl, hb1⟩
    go_wp2_with fail
    go_ret
    exact ⟨ret_int HE.out.symm, B0.trans (hb1.mono B0.size)⟩
  | true =>
    rw [h] at hi
    have hSp := (isSp_iff S).1 h
    have HSp := Lib.hid hSp
    obtain ⟨t, ht⟩ : ∃ t, L.length / 2 = t := ⟨_, rfl⟩
    have HE : Hid (eCh10 S L = if ch10B S L = true then 0 else 2) := Lib.hid (by unfold eCh10; rw [if_pos h])
    have HB : Hid (ch10B S L = (fewB S t && plcB S (L.take t) && dgB (szP S (L.take t)) (L.drop t))) := Lib.hid (by unfold ch10B; rw [ht])
    have hlt' : (L.take t).length = t := by rw [List.length_take]; omega
    have hld : (L.drop t).length = L.length - t := by rw [List.length_drop]
    have htL : t ≤ L.length := by omega
    have HLT := Lib.hid hlt'
    have HLD := Lib.hid hld
    have HT := Lib.hid ht
    have hco := choiceOf_u ao S.length cap g L.length c t ht hmc hL hc
    obtain ⟨m, hm⟩ : ∃ m, m = L.length := ⟨_, rfl⟩
    rw [← hm] at hco htL hL hmc HLD ⊢
    have HM := Lib.hid hm
    have HCO := Lib.hid hco
    clear h hSp hlt' hld ht hm hco
    go_enter Tryz.func64, Tryz.ntmps64
    go_wp2_with fail
    refine hi.mono ?_
    rintro e w1 ⟨rfl, hb1⟩
    have B1 := B0.trans (hb1.mono B0.size)
    have c1 := kept_cell hb1 c0 l0
    have l1 := lt_of_below hb1 l0
    clear hi hb1 c0 l0 B0
    go_wp2_with fail
    refine (HCO.out w1).mono ?_
    rintro e w2 ⟨rfl, hb2⟩
    have B2 := B1.trans (hb2.mono B1.size)
    clear hb2 c1 l1 B1
    obtain ⟨W3, hW3⟩ : ∃ W3, W3 = w2.alloc (.cells #[.slice ao S.length cap, .slice (some ⟨g, 0, none⟩) t t, .slice (some ⟨g, t, none⟩) (m - t) (c - t)] 64) := ⟨_, rfl⟩
    have B3 : Below w.heap.size w W3 := by rw [hW3]; exact B2.alloc B2.size _
    have r3 : W3.heap[w2.heap.size]? = some (.cells #[.slice ao S.length cap, .slice (some ⟨g, 0, none⟩) t t, .slice (some ⟨g, t, none⟩) (m - t) (c - t)] 64 (0, 0)) := by rw [hW3]; exact heap_alloc_new _ _
    have l3 : w2.heap.size < W3.heap.size := (Array.getElem?_eq_some_iff.1 r3).1
    have HW3 := Lib.hid hW3
    clear hW3 B2
    go_wp2_with fail
    rw [← HW3.out]
    refine (rules_any W3).mono ?_
    rintro e w4 ⟨G, rfl, ⟨g0, g1, g2⟩, lG, hb4⟩
    have r4 := (hb4.block _ l3).trans r3
    have l4 := lt_of_below hb4 l3
    have B4 := B3.trans (hb4.mono B3.size)
    have HG : Hid (∀ k, k < 3 → w4.cell? ⟨G, k, none⟩ = some (.func (.func (rN10 k)) #[] #[])) := Lib.hid fun k hk => by
      rcases (show k = 0 ∨ k = 1 ∨ k = 2 by omega) with rfl | rfl | rfl
      · exact g0
      · exact g1
      · exact g2
    clear g0 g1 g2 hb4 r3 l3 B3
    go_wp2_with fail
    go_loopw [16] (fun x wr => ∃ k : Nat, k ≤ 3 ∧ x = .int .i64 (k : Int) ∧ Hid ((1 ≤ k → fewB S t = true) ∧ (2 ≤ k → plcB S (L.take t) = true) ∧ (3 ≤ k → dgB (szP S (L.take t)) (L.drop t) = true)) ∧ Below w4.heap.size w4 wr) (fun x _ => 3 - (intOf x).toNat)
    case atStart => exact ⟨0, by omega, rfl, Lib.hid ⟨fun h => by omega, fun h => by omega, fun h => by omega⟩, Below.refl _ _⟩
    case round =>
      obtain ⟨k, hk, rfl, HK, B⟩ := hrel
      have BB := B4.trans (B.mono B4.size)
      by_cases hlt : k < 3
      · have hkI : (k : Int) < 3 := by omega
        have gw := kept_cell B (HG.out k hlt) lG
        obtain ⟨N, hN⟩ : ∃ N, N = rN10 k := ⟨_, rfl⟩
        rw [← hN] at gw
        have rr := (B.block _ l4).trans r4
        have y0 : wr.cell? ⟨w2.heap.size, 0, none⟩ = some (.slice ao S.length cap) := by rw [cell_of_row wr _ 0 _ _ _ rr]; rfl
        have y1 : wr.cell? ⟨w2.heap.size, 1, none⟩ = some (.slice (some ⟨g, 0, none⟩) t t) := by rw [cell_of_row wr _ 1 _ _ _ rr]; rfl
        have y2 : wr.cell? ⟨w2.heap.size, 2, none⟩ = some (.slice (some ⟨g, t, none⟩) (m - t) (c - t)) := by rw [cell_of_row wr _ 2 _ _ _ rr]; rfl
        have hPI := ints_takeH (hLI.below BB) t
        have hDI := ints_dropH (hLI.below BB) t
        rw [Nat.zero_add] at hDI
        rcases (show k = 0 ∨ k = 1 ∨ k = 2 by omega) with h0 | h0 | h0
        · have hN0 : N = 110 := by rw [hN, h0]; rfl
          have hcall := few_any ao S cap (some ⟨g, 0, none⟩) t t (some ⟨g, t, none⟩) (m - t) (c - t) (by omega) wr
          have H0 := Lib.hid h0
          clear h0 hN rr
          subst hN0
          cases hq : fewB S t with
          | true =>
            rw [hq] at hcall
            have HQ := Lib.hid hq
            clear hq
            go_wp2_with fail
            refine hcall.mono ?_
            rintro e w5 ⟨rfl, hb5⟩
            go_wp2_with fail
            go_roundw
            case rel => exact ⟨k + 1, by omega, by go_num, Lib.hid ⟨by intros; first | exact HQ.out | trivial, fun h => by have := H0.out; omega, fun h => by have := H0.out; omega⟩, B.trans (hb5.mono B.size)⟩
            case measure => simp [intOf]; omega
          | false =>
            rw [hq] at hcall
            have HR : Hid (eCh10 S L = 2) := Lib.hid (by rw [HE.out, if_neg]; rw [HB.out, hq]; simp)
            clear hq
            go_wp2_with fail
            refine hcall.mono ?_
            rintro e w5 ⟨rfl, hb5⟩
            go_wp2_with fail
            go_ret
            exact ⟨ret_int HR.out.symm, BB.trans (hb5.mono BB.size)⟩
        · have hN0 : N = 111 := by rw [hN, h0]; rfl
          have hcall := hasPlaces_any ao S cap (by omega) (some ⟨g, 0, none⟩) (L.take t) t (by rw [HLT.out]; omega) (some ⟨g, t, none⟩) (m - t) (c - t) wr hPI
          rw [HLT.out] at hcall
          have H0 := Lib.hid h0
          clear h0 hN rr
          subst hN0
          cases hq : plcB S (L.take t) with
          | true =>
            rw [hq] at hcall
            have HQ := Lib.hid hq
            clear hq
            go_wp2_with fail
            refine hcall.mono ?_
            rintro e w5 ⟨rfl, hb5⟩
            go_wp2_with fail
            go_roundw
            case rel => exact ⟨k + 1, by omega, by go_num, Lib.hid ⟨fun _ => HK.out.1 (by have := H0.out; omega), by intros; first | exact HQ.out | trivial, fun h => by have := H0.out; omega⟩, B.trans (hb5.mono B.size)⟩
            case measure => simp [intOf]; omega
          | false =>
            rw [hq] at hcall
            have HR : Hid (eCh10 S L = 2) := Lib.hid (by rw [HE.out, if_neg]; rw [HB.out, hq]; simp)
            clear hq
            go_wp2_with fail
            refine hcall.mono ?_
            rintro e w5 ⟨rfl, hb5⟩
            go_wp2_with fail
            go_ret
            exact ⟨ret_int HR.out.symm, BB.trans (hb5.mono BB.size)⟩
        · have hN0 : N = 112 := by rw [hN, h0]; rfl
          have hf := HK.out.1 (by omega)
          have hp := HK.out.2.1 (by omega)
          have hf' : 1 ≤ t ∧ t ≤ 3 ∧ t ≤ S.length := by unfold fewB at hf; rwa [decide_eq_true_eq] at hf
          have hin := plcB_in hp
          rw [HLT.out] at hin
          have hcall := hasDigits_any ao S cap (by omega) HSp.out.hi g 0 t t (L.take t) HLT.out (by omega) hin (some ⟨g, t, none⟩) (L.drop t) (c - t) (by rw [HLD.out]; omega) wr (hS.below BB) hPI hDI
          rw [HLD.out] at hcall
          have H0 := Lib.hid h0
          clear h0 hN rr hin hf hf' hp
          subst hN0
          cases hq : dgB (szP S (L.take t)) (L.drop t) with
          | true =>
            rw [hq] at hcall
            have HQ := Lib.hid hq
            clear hq
            go_wp2_with fail
            refine hcall.mono ?_
            rintro e w5 ⟨rfl, hb5⟩
            go_wp2_with fail
            go_roundw
            case rel => exact ⟨k + 1, by omega, by go_num, Lib.hid ⟨fun _ => HK.out.1 (by have := H0.out; omega), fun _ => HK.out.2.1 (by have := H0.out; omega), by intros; first | exact HQ.out | trivial⟩, B.trans (hb5.mono B.size)⟩
            case measure => simp [intOf]; omega
          | false =>
            rw [hq] at hcall
            have HR : Hid (eCh10 S L = 2) := Lib.hid (by rw [HE.out, if_neg]; rw [HB.out, hq]; simp)
            clear hq
            go_wp2_with fail
            refine hcall.mono ?_
            rintro e w5 ⟨rfl, hb5⟩
            go_wp2_with fail
            go_ret
            exact ⟨ret_int HR.out.symm, BB.trans (hb5.mono BB.size)⟩
      · have hkI : ¬ (k : Int) < 3 := by omega
        have HR : Hid (eCh10 S L = 0) := Lib.hid (by rw [HE.out, if_pos]; rw [HB.out, HK.out.1 (by omega), HK.out.2.1 (by omega), HK.out.2.2 (by omega)]; rfl)
        go_wp2_with fail
        go_ret
        exact ⟨ret_int HR.out.symm, BB⟩

end Go.Proofs.YtpmfedllbiblbaaGreat

namespace Go.Proofs.YtpmfedllbiblbaaGreat
open Go.RowKit Cv
set_option linter.unusedVariables false
set_option linter.unusedSimpArgs false
set_option maxRecDepth 100000

def eHc (S : List Int) (x : Int) (L : List Int) : Int := if isSp S = true then (if okW S [x] 1 = true ∧ ch10B S L = true then 0 else 2) else 1
def vHc (S : List Int) (x : Int) (L : List Int) : Bool := if eHc S x L = 0 then hasC (digs S x) L else false
theorem eHc_or (S : List Int) (x : Int) (L : List Int) : orI (eWords S [x]) (eCh10 S L) = eHc S x L := by
  unfold eHc eWords eCh10 orI
  by_cases h : isSp S = true
  · rw [if_pos h, if_pos h, if_pos h]
    by_cases h1 : okW S [x] 1 = true
    · rw [if_pos (show okW S [x] [x].length = true from h1), if_pos rfl]
      by_cases h2 : ch10B S L = true
      · rw [if_pos h2, if_pos ⟨h1, h2⟩]
      · rw [if_neg h2, if_neg (fun g => h2 g.2)]
    · rw [if_neg (show ¬ okW S [x] [x].length = true from h1), if_neg (by decide), if_neg (fun g => h1 g.1)]
  · rw [if_neg h, if_neg h, if_neg h, if_neg (by decide)]
theorem eHc_zero {S : List Int} {x : Int} {L : List Int} (h : eHc S x L = 0) : isSp S = true ∧ okW S [x] 1 = true ∧ ch10B S L = true := by
  unfold eHc at h
  split at h
  · rename_i h1
    split at h
    · rename_i h2; exact ⟨h1, h2⟩
    · cases h
  · cases h
theorem ch10B_true {S L : List Int} (h : ch10B S L = true) : ∃ t, L.length / 2 = t ∧ 1 ≤ t ∧ t ≤ 3 ∧ t ≤ S.length ∧ L.length = 2 * t ∧ ∀ k, k < t → 0 ≤ gi L k ∧ gi L k < S.length := by
  refine ⟨_, rfl, ?_⟩
  unfold ch10B at h
  simp only [Bool.and_eq_true] at h
  obtain ⟨⟨h1, h2⟩, h3⟩ := h
  unfold fewB at h1
  rw [decide_eq_true_eq] at h1
  have h4 := (dgB_true h3).1
  rw [szP_len, List.length_take, List.length_drop] at h4
  have h5 := plcB_in h2
  rw [List.length_take] at h5
  refine ⟨h1.1, h1.2.1, h1.2.2, by omega, fun k hk => ?_⟩
  have := h5 k (by omega)
  rwa [gi_take _ _ _ hk] at this

set_option maxHeartbeats 4000000 in
theorem impl_HasChoice (ao : Option Addr) (S : List Int) (cap : Nat) (hn : S.length ≤ 4294967296) (x : Int) (hx : -9223372036854775808 ≤ x ∧ x ≤ 9223372036854775807) (g : Nat) (L : List Int) (c : Nat) (hL : L.length ≤ 4294967296) (hmc : L.length ≤ c) (hc9 : c ≤ 9223372036854775807) (w : World) (hS : Ints w ao S) (hLI : Ints w (some ⟨g, 0, none⟩) L) :
    Calls Tryz.prog 23 #[.agg #[.slice ao S.length cap], .int .i64 x, .slice (some ⟨g, 0, none⟩) L.length c] w fun e w' => e = .returned (.tuple #[.bool (vHc S x L), .int .i64 (eHc S x L)]) ∧ Below w.heap.size w w' := by
  have HOR := Lib.hid (eHc_or S x L)
  obtain ⟨W0, hW0⟩ : ∃ W0, W0 = w.alloc (.cells #[.slice ao S.length cap] 26) := ⟨_, rfl⟩
  have B0 : Below w.heap.size w W0 := by rw [hW0]; go_grown
  have c0 : W0.cell? ⟨w.heap.size, 0, none⟩ = some (.slice ao S.length cap) := by rw [hW0]; exact cell_new w _ _
  have l0 : w.heap.size < W0.heap.size := by rw [hW0]; exact lt_alloc _ _
  have HW0 := Lib.hid hW0
  clear hW0
  by_cases hq : eHc S x L = 0
  case neg =>
    have HV : Hid (vHc S x L = false) := Lib.hid (by unfold vHc; rw [if_neg hq])
    have hqn : (eHc S x L != 0) = true := by simpa using hq
    clear hq
    go_enter Tryz.func23, Tryz.ntmps23
    go_wp2_with fail
    rw [← HW0.out]
    refine wp_region_held_drew (S := fun w' => w'.cell? ⟨w.heap.size, 0, none⟩ = some (.slice ao S.length cap)) (by kernel_rfl) (c0) (fun hHeld => ?_)
    refine wpAnyH_take (i := 0) (v := ?_) rfl (by kernel_rfl) (by kernel_rfl) (by kernel_rfl) (fun _ _ _ h => h) (Or.inl ⟨by rfl, ?_⟩) (by assumption) ?_
    rotate_left
    · (intro w hSw; obtain hSw := hSw; (try dsimp only at hSw); go_simp; try (with_reducible rfl))
    (try simp only [Act.put, List.setIfInBounds_toArray, List.set_cons_zero, List.set_cons_succ, List.getElem_toArray, List.getElem_cons_succ, List.getElem_cons_zero])
    refine wpAnyH_take (i := 1) (v := ?_) rfl (by kernel_rfl) (by kernel_rfl) (by kernel_rfl) (fun _ _ _ h => h) (Or.inl ⟨by rfl, ?_⟩) (by assumption) ?_
    rotate_left
    · (intro w hSw; obtain hSw := hSw; (try dsimp only at hSw); go_simp; try (with_reducible rfl))
    (try simp only [Act.put, List.setIfInBounds_toArray, List.set_cons_zero, List.set_cons_succ, List.getElem_toArray, List.getElem_cons_succ, List.getElem_cons_zero])
    refine wpAnyH_take (i := 4) (v := ?_) rfl (by kernel_rfl) (by kernel_rfl) (by kernel_rfl) (fun _ _ _ h => h) (Or.inl ⟨by rfl, ?_⟩) (by assumption) ?_
    rotate_left
    · (intro w hSw; obtain hSw := hSw; (try dsimp only at hSw); go_simp; try (with_reducible rfl))
    (try simp only [Act.put, List.setIfInBounds_toArray, List.set_cons_zero, List.set_cons_succ, List.getElem_toArray, List.getElem_cons_succ, List.getElem_cons_zero])
    refine wpAnyH_take (i := 5) (v := ?_) rfl (by kernel_rfl) (by kernel_rfl) (by kernel_rfl) (fun _ _ _ h => h) (Or.inl ⟨by rfl, ?_⟩) (by assumption) ?_
    rotate_left
    · (intro w hSw; obtain hSw := hSw; (try dsimp only at hSw); go_simp; try (with_reducible rfl))
    (try simp only [Act.put, List.setIfInBounds_toArray, List.set_cons_zero, List.set_cons_succ, List.getElem_toArray, List.getElem_cons_succ, List.getElem_cons_zero])
    refine wpAnyH_ready (rs := [2]) (by kernel_rfl) (by simp) ?_
    refine AllReadyH.cons rfl (fun K hK => ?_) AllReadyH.nil
    go_simp
    have H1 : Below W0.heap.size W0 (W0.drew.alloc (Obj.cells #[.int .i64 x] 2)) := Below.alloc (Below.refl W0.heap.size W0).drew (Below.size (Below.refl W0.heap.size W0).drew) _
    have hx1 : Ints (W0.drew.alloc (Obj.cells #[.int .i64 x] 2)) (some ⟨W0.drew.heap.size, 0, none⟩) [x] := ints_new1 _ x _ rfl
    refine hK.out _ _ (kept_cell H1 c0 l0) (fun hHeld => ?_)
    clear hK K
    (try simp only [Act.put, List.setIfInBounds_toArray, List.set_cons_zero, List.set_cons_succ, List.getElem_toArray, List.getElem_cons_succ, List.getElem_cons_zero])
    refine wpAnyH_ready (rs := [3]) (by kernel_rfl) (by simp) ?_
    refine AllReadyH.cons rfl (fun K hK => ?_) AllReadyH.nil
    go_simp
    (go_at_call 63; refine (wordsError_n ao S cap hn (some ⟨W0.drew.heap.size, 0, none⟩) [x] 1 1 rfl (by omega) _ (hS.below (B0.trans (Below.mono H1 B0.size))) hx1).mono ?_)
    rintro e x2 ⟨rfl, hb2⟩
    have H2 : Below W0.heap.size W0 x2 := Below.trans H1 (hb2.mono (Below.size H1))
    refine hK.out _ _ (kept_cell H2 c0 l0) (fun hHeld => ?_)
    clear hK K
    (try simp only [Act.put, List.setIfInBounds_toArray, List.set_cons_zero, List.set_cons_succ, List.getElem_toArray, List.getElem_cons_succ, List.getElem_cons_zero])
    refine wpAnyH_ready (rs := [6]) (by kernel_rfl) (by simp) ?_
    refine AllReadyH.cons rfl (fun K hK => ?_) AllReadyH.nil
    go_simp
    (go_at_call 64; refine (choiceError_any ao S cap hn g L c hL hmc hc9 _ (hS.below (B0.trans (Below.mono H2 B0.size))) (hLI.below (B0.trans (Below.mono H2 B0.size)))).mono ?_)
    rintro e x3 ⟨rfl, hb3⟩
    have H3 : Below W0.heap.size W0 x3 := Below.trans H2 (hb3.mono (Below.size H2))
    refine hK.out _ _ (kept_cell H3 c0 l0) (fun hHeld => ?_)
    clear hK K
    (try simp only [Act.put, List.setIfInBounds_toArray, List.set_cons_zero, List.set_cons_succ, List.getElem_toArray, List.getElem_cons_succ, List.getElem_cons_zero])
    refine wpAnyH_ready (rs := [7]) (by kernel_rfl) (by simp) ?_
    refine AllReadyH.cons rfl (fun K hK => ?_) AllReadyH.nil
    go_simp
    have H4 : Below W0.heap.size W0 (x3.alloc (Obj.cells #[.int .i64 (eWords S [x]), .int .i64 (eCh10 S L)] 2)) := Below.alloc H3 (Below.size H3) _
    have he4 : Ints (x3.alloc (Obj.cells #[.int .i64 (eWords S [x]), .int .i64 (eCh10 S L)] 2)) (some ⟨x3.heap.size, 0, none⟩) [eWords S [x], eCh10 S L] := ints_new2 _ _ _ _ rfl
    refine hK.out _ _ (kept_cell H4 c0 l0) (fun hHeld => ?_)
    clear hK K
    (try simp only [Act.put, List.setIfInBounds_toArray, List.set_cons_zero, List.set_cons_succ, List.getElem_toArray, List.getElem_cons_succ, List.getElem_cons_zero])
    refine wpAnyH_ready (rs := [8]) (by kernel_rfl) (by simp) ?_
    refine AllReadyH.cons rfl (fun K hK => ?_) AllReadyH.nil
    go_simp
    (go_at_call 62; refine (cmpOr2 _ _ _ _ _ he4).mono ?_)
    rintro e x5 ⟨rfl, rfl⟩
    refine hK.out _ _ (kept_cell H4 c0 l0) (fun hHeld => ?_)
    clear hK K
    (try simp only [Act.put, List.setIfInBounds_toArray, List.set_cons_zero, List.set_cons_succ, List.getElem_toArray, List.getElem_cons_succ, List.getElem_cons_zero])
    refine wpAnyH_take (i := 9) (v := ?_) rfl (by kernel_rfl) (by kernel_rfl) (by kernel_rfl) (fun _ _ _ h => h) (Or.inl ⟨by rfl, ?_⟩) (by assumption) ?_
    rotate_left
    · (intro w hSw; obtain hSw := hSw; (try dsimp only at hSw); go_simp; try (with_reducible rfl))
    (try simp only [Act.put, List.setIfInBounds_toArray, List.set_cons_zero, List.set_cons_succ, List.getElem_toArray, List.getElem_cons_succ, List.getElem_cons_zero])
    refine wpAnyH_done (by kernel_rfl) ?_ _
    (try simp only [Act.put, List.setIfInBounds_toArray, List.set_cons_zero, List.set_cons_succ, List.getElem_toArray, List.getElem_cons_succ, List.getElem_cons_zero])
    have Hn : Below W0.heap.size W0 (x3.alloc (Obj.cells #[.int .i64 (eWords S [x]), .int .i64 (eCh10 S L)] 2)) := H4
    have B2 := B0.trans (Hn.mono B0.size)
    rw [HOR.out]
    go_wp2_with fail
    go_ret2
    exact ⟨ret_bi HV.out.symm rfl, B2⟩
  case pos =>
    obtain ⟨q1, q2, q3⟩ := eHc_zero hq
    have HSp := Lib.hid ((isSp_iff S).1 q1)
    obtain ⟨t, t0, t1, t3, tS, t2, tb⟩ := ch10B_true q3
    have hxw : 0 ≤ x ∧ x < nW S := by have := (okW_iff S [x] 1).1 q2 0 (by omega); simpa [gi] using this
    have N2 := (nW_bd HSp.out).2
    have xa0 : 0 ≤ x := hxw.1
    have xb1 : x ≤ 9223372036854775807 := by omega
    have HV : Hid (vHc S x L = hasC (digs S x) L) := Lib.hid (by unfold vHc; rw [if_pos hq])
    have HCO : Hid (∀ W, Calls Tryz.prog 65 #[.agg #[.slice ao S.length cap], .slice (some ⟨g, 0, none⟩) L.length c] W fun e w' => e = .returned (.agg #[.slice ao S.length cap, .slice (some ⟨g, 0, none⟩) t t, .slice (some ⟨g, t, none⟩) (L.length - t) (c - t)]) ∧ Below W.heap.size W w') := Lib.hid fun W => choiceOf_u ao S.length cap g L.length c t t0 hmc hL hc9 W
    have HIS : Hid (∀ (gD : Nat) (W : World), Ints W (some ⟨gD, 0, none⟩) (digs S x) → Ints W (some ⟨g, 0, none⟩) L → Calls Tryz.prog 66 #[.agg #[.slice ao S.length cap, .slice (some ⟨g, 0, none⟩) t t, .slice (some ⟨g, t, none⟩) (L.length - t) (c - t)], .slice (some ⟨gD, 0, none⟩) S.length S.length] W fun e w' => e = .returned (.bool (hasC (digs S x) L)) ∧ Below W.heap.size W w') := Lib.hid fun gD W h1 h2 => by
      have h := isIn_any ao S.length cap g 0 t (c - t) gD 0 S.length S.length L (digs S x) HSp.out.hi (digs_length _ _) t2 (by omega) t3 tb W h1 h2
      unfold chV at h
      rw [Nat.zero_add] at h
      rw [show L.length - t = t by omega]
      exact h
    have hqn : (eHc S x L != 0) = false := by rw [hq]; rfl
    have HQ := Lib.hid hq
    rw [hq]
    rw [hq] at HOR
    clear hq q1 q2 q3 t0 t1 t3 tS t2 tb hxw N2 hqn
    go_enter Tryz.func23, Tryz.ntmps23
    go_wp2_with fail
    rw [← HW0.out]
    refine wp_region_held_drew (S := fun w' => w'.cell? ⟨w.heap.size, 0, none⟩ = some (.slice ao S.length cap)) (by kernel_rfl) (c0) (fun hHeld => ?_)
    refine wpAnyH_take (i := 0) (v := ?_) rfl (by kernel_rfl) (by kernel_rfl) (by kernel_rfl) (fun _ _ _ h => h) (Or.inl ⟨by rfl, ?_⟩) (by assumption) ?_
    rotate_left
    · (intro w hSw; obtain hSw := hSw; (try dsimp only at hSw); go_simp; try (with_reducible rfl))
    (try simp only [Act.put, List.setIfInBounds_toArray, List.set_cons_zero, List.set_cons_succ, List.getElem_toArray, List.getElem_cons_succ, List.getElem_cons_zero])
    refine wpAnyH_take (i := 1) (v := ?_) rfl (by kernel_rfl) (by kernel_rfl) (by kernel_rfl) (fun _ _ _ h => h) (Or.inl ⟨by rfl, ?_⟩) (by assumption) ?_
    rotate_left
    · (intro w hSw; obtain hSw := hSw; (try dsimp only at hSw); go_simp; try (with_reducible rfl))
    (try simp only [Act.put, List.setIfInBounds_toArray, List.set_cons_zero, List.set_cons_succ, List.getElem_toArray, List.getElem_cons_succ, List.getElem_cons_zero])
    refine wpAnyH_take (i := 4) (v := ?_) rfl (by kernel_rfl) (by kernel_rfl) (by kernel_rfl) (fun _ _ _ h => h) (Or.inl ⟨by rfl, ?_⟩) (by assumption) ?_
    rotate_left
    · (intro w hSw; obtain hSw := hSw; (try dsimp only at hSw); go_simp; try (with_reducible rfl))
    (try simp only [Act.put, List.setIfInBounds_toArray, List.set_cons_zero, List.set_cons_succ, List.getElem_toArray, List.getElem_cons_succ, List.getElem_cons_zero])
    refine wpAnyH_take (i := 5) (v := ?_) rfl (by kernel_rfl) (by kernel_rfl) (by kernel_rfl) (fun _ _ _ h => h) (Or.inl ⟨by rfl, ?_⟩) (by assumption) ?_
    rotate_left
    · (intro w hSw; obtain hSw := hSw; (try dsimp only at hSw); go_simp; try (with_reducible rfl))
    (try simp only [Act.put, List.setIfInBounds_toArray, List.set_cons_zero, List.set_cons_succ, List.getElem_toArray, List.getElem_cons_succ, List.getElem_cons_zero])
    refine wpAnyH_ready (rs := [2]) (by kernel_rfl) (by simp) ?_
    refine AllReadyH.cons rfl (fun K hK => ?_) AllReadyH.nil
    go_simp
    have H1 : Below W0.heap.size W0 (W0.drew.alloc (Obj.cells #[.int .i64 x] 2)) := Below.alloc (Below.refl W0.heap.size W0).drew (Below.size (Below.refl W0.heap.size W0).drew) _
    have hx1 : Ints (W0.drew.alloc (Obj.cells #[.int .i64 x] 2)) (some ⟨W0.drew.heap.size, 0, none⟩) [x] := ints_new1 _ x _ rfl
    refine hK.out _ _ (kept_cell H1 c0 l0) (fun hHeld => ?_)
    clear hK K
    (try simp only [Act.put, List.setIfInBounds_toArray, List.set_cons_zero, List.set_cons_succ, List.getElem_toArray, List.getElem_cons_succ, List.getElem_cons_zero])
    refine wpAnyH_ready (rs := [3]) (by kernel_rfl) (by simp) ?_
    refine AllReadyH.cons rfl (fun K hK => ?_) AllReadyH.nil
    go_simp
    (go_at_call 63; refine (wordsError_n ao S cap hn (some ⟨W0.drew.heap.size, 0, none⟩) [x] 1 1 rfl (by omega) _ (hS.below (B0.trans (Below.mono H1 B0.size))) hx1).mono ?_)
    rintro e x2 ⟨rfl, hb2⟩
    have H2 : Below W0.heap.size W0 x2 := Below.trans H1 (hb2.mono (Below.size H1))
    refine hK.out _ _ (kept_cell H2 c0 l0) (fun hHeld => ?_)
    clear hK K
    (try simp only [Act.put, List.setIfInBounds_toArray, List.set_cons_zero, List.set_cons_succ, List.getElem_toArray, List.getElem_cons_succ, List.getElem_cons_zero])
    refine wpAnyH_ready (rs := [6]) (by kernel_rfl) (by simp) ?_
    refine AllReadyH.cons rfl (fun K hK => ?_) AllReadyH.nil
    go_simp
    (go_at_call 64; refine (choiceError_any ao S cap hn g L c hL hmc hc9 _ (hS.below (B0.trans (Below.mono H2 B0.size))) (hLI.below (B0.trans (Below.mono H2 B0.size)))).mono ?_)
    rintro e x3 ⟨rfl, hb3⟩
    have H3 : Below W0.heap.size W0 x3 := Below.trans H2 (hb3.mono (Below.size H2))
    refine hK.out _ _ (kept_cell H3 c0 l0) (fun hHeld => ?_)
    clear hK K
    (try simp only [Act.put, List.setIfInBounds_toArray, List.set_cons_zero, List.set_cons_succ, List.getElem_toArray, List.getElem_cons_succ, List.getElem_cons_zero])
    refine wpAnyH_ready (rs := [7]) (by kernel_rfl) (by simp) ?_
    refine AllReadyH.cons rfl (fun K hK => ?_) AllReadyH.nil
    go_simp
    have H4 : Below W0.heap.size W0 (x3.alloc (Obj.cells #[.int .i64 (eWords S [x]), .int .i64 (eCh10 S L)] 2)) := Below.alloc H3 (Below.size H3) _
    have he4 : Ints (x3.alloc (Obj.cells #[.int .i64 (eWords S [x]), .int .i64 (eCh10 S L)] 2)) (some ⟨x3.heap.size, 0, none⟩) [eWords S [x], eCh10 S L] := ints_new2 _ _ _ _ rfl
    refine hK.out _ _ (kept_cell H4 c0 l0) (fun hHeld => ?_)
    clear hK K
    (try simp only [Act.put, List.setIfInBounds_toArray, List.set_cons_zero, List.set_cons_succ, List.getElem_toArray, List.getElem_cons_succ, List.getElem_cons_zero])
    refine wpAnyH_ready (rs := [8]) (by kernel_rfl) (by simp) ?_
    refine AllReadyH.cons rfl (fun K hK => ?_) AllReadyH.nil
    go_simp
    (go_at_call 62; refine (cmpOr2 _ _ _ _ _ he4).mono ?_)
    rintro e x5 ⟨rfl, rfl⟩
    refine hK.out _ _ (kept_cell H4 c0 l0) (fun hHeld => ?_)
    clear hK K
    (try simp only [Act.put, List.setIfInBounds_toArray, List.set_cons_zero, List.set_cons_succ, List.getElem_toArray, List.getElem_cons_succ, List.getElem_cons_zero])
    refine wpAnyH_take (i := 9) (v := ?_) rfl (by kernel_rfl) (by kernel_rfl) (by kernel_rfl) (fun _ _ _ h => h) (Or.inl ⟨by rfl, ?_⟩) (by assumption) ?_
    rotate_left
    · (intro w hSw; obtain hSw := hSw; (try dsimp only at hSw); go_simp; try (with_reducible rfl))
    (try simp only [Act.put, List.setIfInBounds_toArray, List.set_cons_zero, List.set_cons_succ, List.getElem_toArray, List.getElem_cons_succ, List.getElem_cons_zero])
    refine wpAnyH_done (by kernel_rfl) ?_ _
    (try simp only [Act.put, List.setIfInBounds_toArray, List.set_cons_zero, List.set_cons_succ, List.getElem_toArray, List.getElem_cons_succ, List.getElem_cons_zero])
    have Hn : Below W0.heap.size W0 (x3.alloc (Obj.cells #[.int .i64 (eWords S [x]), .int .i64 (eCh10 S L)] 2)) := H4
    have B2 := B0.trans (Hn.mono B0.size)
    have c5 := kept_cell Hn c0 l0
    have l5 := lt_of_below Hn l0
    clear hHeld
    rw [HOR.out]
    obtain ⟨W5, hW5⟩ : ∃ W5, W5 = (x3.alloc (Obj.cells #[.int .i64 (eWords S [x]), .int .i64 (eCh10 S L)] 2)) := ⟨_, rfl⟩
    rw [← hW5] at B2 c5 l5 ⊢
    clear hW5
    go_wp2_with fail
    refine wp_region_held_drew (S := fun w' => w'.cell? ⟨w.heap.size, 0, none⟩ = some (.slice ao S.length cap)) (by kernel_rfl) (c5) (fun hHeld => ?_)
    refine wpAnyH_take (i := 0) (v := ?_) rfl (by kernel_rfl) (by kernel_rfl) (by kernel_rfl) (fun _ _ _ h => h) (Or.inl ⟨by rfl, ?_⟩) (by assumption) ?_
    rotate_left
    · (intro w hSw; obtain hSw := hSw; (try dsimp only at hSw); go_simp; try (with_reducible rfl))
    (try simp only [Act.put, List.setIfInBounds_toArray, List.set_cons_zero, List.set_cons_succ, List.getElem_toArray, List.getElem_cons_succ, List.getElem_cons_zero])
    refine wpAnyH_take (i := 1) (v := ?_) rfl (by kernel_rfl) (by kernel_rfl) (by kernel_rfl) (fun _ _ _ h => h) (Or.inl ⟨by rfl, ?_⟩) (by assumption) ?_
    rotate_left
    · (intro w hSw; obtain hSw := hSw; (try dsimp only at hSw); go_simp; try (with_reducible rfl))
    (try simp only [Act.put, List.setIfInBounds_toArray, List.set_cons_zero, List.set_cons_succ, List.getElem_toArray, List.getElem_cons_succ, List.getElem_cons_zero])
    refine wpAnyH_take (i := 3) (v := ?_) rfl (by kernel_rfl) (by kernel_rfl) (by kernel_rfl) (fun _ _ _ h => h) (Or.inl ⟨by rfl, ?_⟩) (by assumption) ?_
    rotate_left
    · (intro w hSw; obtain hSw := hSw; (try dsimp only at hSw); go_simp; try (with_reducible rfl))
    (try simp only [Act.put, List.setIfInBounds_toArray, List.set_cons_zero, List.set_cons_succ, List.getElem_toArray, List.getElem_cons_succ, List.getElem_cons_zero])
    refine wpAnyH_take (i := 4) (v := ?_) rfl (by kernel_rfl) (by kernel_rfl) (by kernel_rfl) (fun _ _ _ h => h) (Or.inl ⟨by rfl, ?_⟩) (by assumption) ?_
    rotate_left
    · (intro w hSw; obtain hSw := hSw; (try dsimp only at hSw); go_simp; try (with_reducible rfl))
    (try simp only [Act.put, List.setIfInBounds_toArray, List.set_cons_zero, List.set_cons_succ, List.getElem_toArray, List.getElem_cons_succ, List.getElem_cons_zero])
    refine wpAnyH_ready (rs := [2, 5]) (by kernel_rfl) (by simp) ?_
    refine AllReadyH.cons rfl (fun K hK => ?_) ?_
    · go_simp
      (go_at_call 65; refine (HCO.out _).mono ?_)
      rintro e x1 ⟨rfl, hb1⟩
      have H1 : Below W5.heap.size W5 x1 := Below.trans (Below.refl W5.heap.size W5).drew (hb1.mono (Below.size (Below.refl W5.heap.size W5).drew))
      refine hK.out _ _ (kept_cell H1 c5 l5) (fun hHeld => ?_)
      clear hK K
      (try simp only [Act.put, List.setIfInBounds_toArray, List.set_cons_zero, List.set_cons_succ, List.getElem_toArray, List.getElem_cons_succ, List.getElem_cons_zero])
      refine wpAnyH_ready (rs := [5]) (by kernel_rfl) (by simp) ?_
      refine AllReadyH.cons rfl (fun K hK => ?_) AllReadyH.nil
      go_simp
      have H2 : Below W5.heap.size W5 (x1.alloc (Obj.cells #[.int .i64 x] 2)) := Below.alloc H1 (Below.size H1) _
      have hy2 : Ints (x1.alloc (Obj.cells #[.int .i64 x] 2)) (some ⟨x1.heap.size, 0, none⟩) [x] := ints_new1 _ x _ rfl
      refine hK.out _ _ (kept_cell H2 c5 l5) (fun hHeld => ?_)
      clear hK K
      (try simp only [Act.put, List.setIfInBounds_toArray, List.set_cons_zero, List.set_cons_succ, List.getElem_toArray, List.getElem_cons_succ, List.getElem_cons_zero])
      refine wpAnyH_ready (rs := [6]) (by kernel_rfl) (by simp) ?_
      refine AllReadyH.cons rfl (fun K hK => ?_) AllReadyH.nil
      go_simp
      (go_at_call 67; refine (digitParts_1 ao S cap HSp.out x xa0 xb1 (some ⟨x1.heap.size, 0, none⟩) 1 _ (hS.below (B2.trans (Below.mono H2 B2.size))) hy2).mono ?_)
      rintro e x3 ⟨P3, g3, rfl, hP3, og3, lP3, hb3⟩
      have H3 : Below W5.heap.size W5 x3 := Below.trans H2 (hb3.mono (Below.size H2))
      replace hy2 := hy2.below hb3
      refine hK.out _ _ (kept_cell H3 c5 l5) (fun hHeld => ?_)
      clear hK K
      (try simp only [Act.put, List.setIfInBounds_toArray, List.set_cons_zero, List.set_cons_succ, List.getElem_toArray, List.getElem_cons_succ, List.getElem_cons_zero])
      refine wpAnyH_take (i := 7) (v := ?_) rfl (by kernel_rfl) (by kernel_rfl) (by kernel_rfl) (fun _ _ _ h => h) (Or.inl ⟨by rfl, ?_⟩) (by assumption) ?_
      rotate_left
      · (intro w hSw; obtain hSw := hSw; (try dsimp only at hSw); go_simp; try (with_reducible rfl))
      (try simp only [Act.put, List.setIfInBounds_toArray, List.set_cons_zero, List.set_cons_succ, List.getElem_toArray, List.getElem_cons_succ, List.getElem_cons_zero])
      refine wpAnyH_ready (rs := [8]) (by kernel_rfl) (by simp) ?_
      refine AllReadyH.cons rfl (fun K hK => ?_) AllReadyH.nil
      go_simp
      refine hK.out _ _ (kept_cell H3 c5 l5) (fun hHeld => ?_)
      clear hK K
      (try simp only [Act.put, List.setIfInBounds_toArray, List.set_cons_zero, List.set_cons_succ, List.getElem_toArray, List.getElem_cons_succ, List.getElem_cons_zero])
      refine wpAnyH_ready (rs := [9]) (by kernel_rfl) (by simp) ?_
      refine AllReadyH.cons rfl (fun K hK => ?_) AllReadyH.nil
      go_simp
      (go_at_call 66; refine (HIS.out g3 _ (own_ints og3) (hLI.below (B2.trans (Below.mono H3 B2.size)))).mono ?_)
      rintro e x4 ⟨rfl, hb4⟩
      have H4 : Below W5.heap.size W5 x4 := Below.trans H3 (hb4.mono (Below.size H3))
      replace hy2 := hy2.below hb4
      refine hK.out _ _ (kept_cell H4 c5 l5) (fun hHeld => ?_)
      clear hK K
      (try simp only [Act.put, List.setIfInBounds_toArray, List.set_cons_zero, List.set_cons_succ, List.getElem_toArray, List.getElem_cons_succ, List.getElem_cons_zero])
      refine wpAnyH_take (i := 10) (v := ?_) rfl (by kernel_rfl) (by kernel_rfl) (by kernel_rfl) (fun _ _ _ h => h) (Or.inl ⟨by rfl, ?_⟩) (by assumption) ?_
      rotate_left
      · (intro w hSw; obtain hSw := hSw; (try dsimp only at hSw); go_simp; try (with_reducible rfl))
      (try simp only [Act.put, List.setIfInBounds_toArray, List.set_cons_zero, List.set_cons_succ, List.getElem_toArray, List.getElem_cons_succ, List.getElem_cons_zero])
      refine wpAnyH_take (i := 11) (v := ?_) rfl (by kernel_rfl) (by kernel_rfl) (by kernel_rfl) (fun _ _ _ h => h) (Or.inl ⟨by rfl, ?_⟩) (by assumption) ?_
      rotate_left
      · (intro w hSw; obtain hSw := hSw; (try dsimp only at hSw); go_simp; try (with_reducible rfl))
      (try simp only [Act.put, List.setIfInBounds_toArray, List.set_cons_zero, List.set_cons_succ, List.getElem_toArray, List.getElem_cons_succ, List.getElem_cons_zero])
      refine wpAnyH_done (by kernel_rfl) ?_ _
      (try simp only [Act.put, List.setIfInBounds_toArray, List.set_cons_zero, List.set_cons_succ, List.getElem_toArray, List.getElem_cons_succ, List.getElem_cons_zero])
      have Hn : Below W5.heap.size W5 x4 := H4
      go_wp2_with fail
      go_ret2
      exact ⟨ret_bi HV.out.symm rfl, B2.trans (Hn.mono B2.size)⟩
    refine AllReadyH.cons rfl (fun K hK => ?_) AllReadyH.nil
    go_simp
    have H1 : Below W5.heap.size W5 (W5.drew.alloc (Obj.cells #[.int .i64 x] 2)) := Below.alloc (Below.refl W5.heap.size W5).drew (Below.size (Below.refl W5.heap.size W5).drew) _
    have hy1 : Ints (W5.drew.alloc (Obj.cells #[.int .i64 x] 2)) (some ⟨W5.drew.heap.size, 0, none⟩) [x] := ints_new1 _ x _ rfl
    refine hK.out _ _ (kept_cell H1 c5 l5) (fun hHeld => ?_)
    clear hK K
    (try simp only [Act.put, List.setIfInBounds_toArray, List.set_cons_zero, List.set_cons_succ, List.getElem_toArray, List.getElem_cons_succ, List.getElem_cons_zero])
    refine wpAnyH_ready (rs := [2]) (by kernel_rfl) (by simp) ?_
    refine AllReadyH.cons rfl (fun K hK => ?_) AllReadyH.nil
    go_simp
    (go_at_call 65; refine (HCO.out _).mono ?_)
    rintro e x2 ⟨rfl, hb2⟩
    have H2 : Below W5.heap.size W5 x2 := Below.trans H1 (hb2.mono (Below.size H1))
    replace hy1 := hy1.below hb2
    refine hK.out _ _ (kept_cell H2 c5 l5) (fun hHeld => ?_)
    clear hK K
    (try simp only [Act.put, List.setIfInBounds_toArray, List.set_cons_zero, List.set_cons_succ, List.getElem_toArray, List.getElem_cons_succ, List.getElem_cons_zero])
    refine wpAnyH_ready (rs := [6]) (by kernel_rfl) (by simp) ?_
    refine AllReadyH.cons rfl (fun K hK => ?_) AllReadyH.nil
    go_simp
    (go_at_call 67; refine (digitParts_1 ao S cap HSp.out x xa0 xb1 (some ⟨W5.drew.heap.size, 0, none⟩) 1 _ (hS.below (B2.trans (Below.mono H2 B2.size))) hy1).mono ?_)
    rintro e x3 ⟨P3, g3, rfl, hP3, og3, lP3, hb3⟩
    have H3 : Below W5.heap.size W5 x3 := Below.trans H2 (hb3.mono (Below.size H2))
    replace hy1 := hy1.below hb3
    refine hK.out _ _ (kept_cell H3 c5 l5) (fun hHeld => ?_)
    clear hK K
    (try simp only [Act.put, List.setIfInBounds_toArray, List.set_cons_zero, List.set_cons_succ, List.getElem_toArray, List.getElem_cons_succ, List.getElem_cons_zero])
    refine wpAnyH_take (i := 7) (v := ?_) rfl (by kernel_rfl) (by kernel_rfl) (by kernel_rfl) (fun _ _ _ h => h) (Or.inl ⟨by rfl, ?_⟩) (by assumption) ?_
    rotate_left
    · (intro w hSw; obtain hSw := hSw; (try dsimp only at hSw); go_simp; try (with_reducible rfl))
    (try simp only [Act.put, List.setIfInBounds_toArray, List.set_cons_zero, List.set_cons_succ, List.getElem_toArray, List.getElem_cons_succ, List.getElem_cons_zero])
    refine wpAnyH_ready (rs := [8]) (by kernel_rfl) (by simp) ?_
    refine AllReadyH.cons rfl (fun K hK => ?_) AllReadyH.nil
    go_simp
    refine hK.out _ _ (kept_cell H3 c5 l5) (fun hHeld => ?_)
    clear hK K
    (try simp only [Act.put, List.setIfInBounds_toArray, List.set_cons_zero, List.set_cons_succ, List.getElem_toArray, List.getElem_cons_succ, List.getElem_cons_zero])
    refine wpAnyH_ready (rs := [9]) (by kernel_rfl) (by simp) ?_
    refine AllReadyH.cons rfl (fun K hK => ?_) AllReadyH.nil
    go_simp
    (go_at_call 66; refine (HIS.out g3 _ (own_ints og3) (hLI.below (B2.trans (Below.mono H3 B2.size)))).mono ?_)
    rintro e x4 ⟨rfl, hb4⟩
    have H4 : Below W5.heap.size W5 x4 := Below.trans H3 (hb4.mono (Below.size H3))
    replace hy1 := hy1.below hb4
    refine hK.out _ _ (kept_cell H4 c5 l5) (fun hHeld => ?_)
    clear hK K
    (try simp only [Act.put, List.setIfInBounds_toArray, List.set_cons_zero, List.set_cons_succ, List.getElem_toArray, List.getElem_cons_succ, List.getElem_cons_zero])
    refine wpAnyH_take (i := 10) (v := ?_) rfl (by kernel_rfl) (by kernel_rfl) (by kernel_rfl) (fun _ _ _ h => h) (Or.inl ⟨by rfl, ?_⟩) (by assumption) ?_
    rotate_left
    · (intro w hSw; obtain hSw := hSw; (try dsimp only at hSw); go_simp; try (with_reducible rfl))
    (try simp only [Act.put, List.setIfInBounds_toArray, List.set_cons_zero, List.set_cons_succ, List.getElem_toArray, List.getElem_cons_succ, List.getElem_cons_zero])
    refine wpAnyH_take (i := 11) (v := ?_) rfl (by kernel_rfl) (by kernel_rfl) (by kernel_rfl) (fun _ _ _ h => h) (Or.inl ⟨by rfl, ?_⟩) (by assumption) ?_
    rotate_left
    · (intro w hSw; obtain hSw := hSw; (try dsimp only at hSw); go_simp; try (with_reducible rfl))
    (try simp only [Act.put, List.setIfInBounds_toArray, List.set_cons_zero, List.set_cons_succ, List.getElem_toArray, List.getElem_cons_succ, List.getElem_cons_zero])
    refine wpAnyH_done (by kernel_rfl) ?_ _
    (try simp only [Act.put, List.setIfInBounds_toArray, List.set_cons_zero, List.set_cons_succ, List.getElem_toArray, List.getElem_cons_succ, List.getElem_cons_zero])
    have Hn : Below W5.heap.size W5 x4 := H4
    go_wp2_with fail
    go_ret2
    exact ⟨ret_bi HV.out.symm rfl, B2.trans (Hn.mono B2.size)⟩

end Go.Proofs.YtpmfedllbiblbaaGreat

namespace Go.Proofs.YtpmfedllbiblbaaGreat
open Go.RowKit Cv
set_option linter.unusedVariables false
set_option linter.unusedSimpArgs false
set_option maxRecDepth 100000

theorem plTo_take (n : Int) (L : List Int) (t : Nat) : ∀ k, k ≤ t → plTo n (L.take t) k = plTo n L k
  | 0, _ => rfl
  | k + 1, h => by
    rw [plTo, plTo, plTo_take n L t k (by omega), gi_take _ _ _ (by omega)]
    by_cases h0 : k = 0
    · subst h0; rfl
    · rw [gi_take _ _ _ (by omega)]
theorem ins_any (n : Nat) (P : List Int) : insTo n P = !P.any (outB n) := by
  rw [Bool.eq_iff_iff]
  unfold insTo
  rw [decide_eq_true_eq, Bool.not_eq_true', List.any_eq_false]
  constructor
  · intro h x hx
    obtain ⟨j, hj, e⟩ := List.getElem_of_mem hx
    have := h j hj
    rw [gi_lt _ _ hj, e] at this
    unfold outB
    rw [decide_eq_true_eq]; omega
  · intro h j hj
    have := h _ (gi_mem hj)
    unfold outB at this
    rw [decide_eq_true_eq] at this
    omega
theorem plc_pl (S P : List Int) : plcB S P = plTo S.length P P.length := by
  rw [pl_split, ins_any]; rfl
theorem ch10B_iff {S L : List Int} {t : Nat} (ht : L.length / 2 = t) : ch10B S L = true ↔ (1 ≤ t ∧ t ≤ 3 ∧ t ≤ S.length) ∧ L.length = 2 * t ∧ plTo S.length L t = true ∧ ∀ k, k < t → 0 ≤ gi L (t + k) ∧ gi L (t + k) < gi S (gi L k).toNat := by
  have hl : (L.take t).length = t := by rw [List.length_take]; omega
  have hp : plcB S (L.take t) = plTo S.length L t := by rw [plc_pl, hl, plTo_take _ _ _ _ (Nat.le_refl _)]
  have hg : ∀ k, gi (L.drop t) k = gi L (t + k) := fun k => by simp [gi]
  unfold ch10B
  rw [ht, hp]
  simp only [Bool.and_eq_true, fewB, decide_eq_true_eq]
  constructor
  · rintro ⟨⟨h1, h2⟩, h3⟩
    obtain ⟨h4, h5⟩ := dgB_true h3
    rw [szP_len, hl, List.length_drop] at h4
    refine ⟨h1, by omega, h2, fun k hk => ?_⟩
    have := h5 k (by rw [szP_len, hl]; exact hk)
    rwa [hg, gi_szP _ _ _ (by rw [hl]; exact hk), gi_take _ _ _ hk] at this
  · rintro ⟨h1, h2, h3, h4⟩
    refine ⟨⟨h1, h3⟩, dgB_ok (by rw [szP_len, hl, List.length_drop]; omega) fun i hi => ?_⟩
    rw [szP_len, hl] at hi
    rw [hg, gi_szP _ _ _ (by rw [hl]; exact hi), gi_take _ _ _ hi]
    exact h4 i hi
theorem eHc_inv {S : List Int} {x : Int} {L : List Int} (h : isSp S = false) : eHc S x L = 1 ∧ vHc S x L = false := by
  have e : eHc S x L = 1 := by unfold eHc; rw [h]; rfl
  exact ⟨e, by unfold vHc; rw [e]; rfl⟩
theorem eHc_bad {S : List Int} {x : Int} {L : List Int} (h : isSp S = true) (g : ¬ (okW S [x] 1 = true ∧ ch10B S L = true)) : eHc S x L = 2 ∧ vHc S x L = false := by
  have e : eHc S x L = 2 := by unfold eHc; rw [if_pos h, if_neg g]
  exact ⟨e, by unfold vHc; rw [e]; rfl⟩
theorem eHc_ok {S : List Int} {x : Int} {L : List Int} (h : isSp S = true) (g : okW S [x] 1 = true ∧ ch10B S L = true) : eHc S x L = 0 ∧ vHc S x L = hasC (digs S x) L := by
  have e : eHc S x L = 0 := by unfold eHc; rw [if_pos h, if_pos g]
  exact ⟨e, by unfold vHc; rw [if_pos e]⟩
/-- the first error of the model -/
theorem eR10_bad1 {S : List Int} {x : Int} {L : List Int} {t : Nat} (ht : L.length / 2 = t) (h : eR10 S [x] (t : Int) ≠ 0) : eHc S x L = eR10 S [x] (t : Int) ∧ vHc S x L = false := by
  cases hs : isSp S with
  | false => rw [eR10_inv hs]; exact eHc_inv hs
  | true =>
    have h1 : ¬ (okW S [x] 1 = true ∧ ch10B S L = true) := fun g => h (by
      have hc := (ch10B_iff ht).1 g.2
      rw [eR10_ok hs ⟨g.1, by simp⟩, eC10_ok hs (by omega)])
    have h2 : eR10 S [x] (t : Int) = 2 := by
      by_cases h3 : okW S [x] [x].length = true ∧ [x].length ≤ 200
      · rw [eR10_ok hs h3] at h ⊢
        by_cases h4 : 1 ≤ (t : Int) ∧ (t : Int) ≤ 3 ∧ (t : Int) ≤ S.length
        · exact absurd (eC10_ok hs h4) h
        · exact eC10_bad hs h4
      · exact eR10_bad hs h3
    rw [h2]
    exact eHc_bad hs h1

set_option maxHeartbeats 4000000 in
theorem spec_HasChoice (ao : Option Addr) (S : List Int) (cap : Nat) (hn : S.length ≤ 4294967296) (x : Int) (hx : -9223372036854775808 ≤ x ∧ x ≤ 9223372036854775807) (g : Nat) (L : List Int) (cL : Nat) (hL : L.length ≤ 4294967296) (hmc : L.length ≤ cL) (hc9 : cL ≤ 9223372036854775807) (w : World) (hS : Ints w ao S) (hLI : Ints w (some ⟨g, 0, none⟩) L) :
    Calls Tryz.prog 24 #[.agg #[.slice ao S.length cap], .int .i64 x, .slice (some ⟨g, 0, none⟩) L.length cL] w fun e w' => e = .returned (.tuple #[.bool (vHc S x L), .int .i64 (eHc S x L)]) ∧ Below w.heap.size w w' := by
  obtain ⟨t, ht⟩ : ∃ t, L.length / 2 = t := ⟨_, rfl⟩
  have e2 : (L.length : Int).tdiv 2 = (t : Int) := by rw [Int.tdiv_eq_ediv_of_nonneg (by omega)]; omega
  have tI : (t : Int) ≤ 4294967296 := by omega
  have tI0 : (0 : Int) ≤ (t : Int) := by omega
  have E3 : IntKind.i64.wrap (t : Int) = (t : Int) := IntWalk.i64_in _ ⟨by omega, by omega⟩
  have E4 : IntKind.i64.wrap (2 * (t : Int)) = 2 * (t : Int) := IntWalk.i64_in _ ⟨by omega, by omega⟩
  have B0 : Below w.heap.size w ((w.alloc (.cells #[.slice ao S.length cap] 26)).alloc (.cells #[.int .i64 x] 2)) := by go_grown
  have c0 := kept_cell ((Below.refl _ (w.alloc (.cells #[.slice ao S.length cap] 26))).alloc (Nat.le_refl _) (.cells #[.int .i64 x] 2)) (cell_new w (.slice ao S.length cap) 26) (lt_alloc _ _)
  have l0 : w.heap.size < ((w.alloc (.cells #[.slice ao S.length cap] 26)).alloc (.cells #[.int .i64 x] 2)).heap.size := by simp; omega
  have hr := l10Rows_any ao S cap hn (some ⟨w.heap.size + 1, 0, none⟩) [x] 1 (by simp) (t : Int) _ (hS.below B0) (ints_new1 (w.alloc (.cells #[.slice ao S.length cap] 26)) x 2 (by simp))
  by_cases hq : eR10 S [x] (t : Int) = 0
  case neg =>
    have HQ := Lib.hid (eR10_bad1 ht hq)
    have hqn : (eR10 S [x] (t : Int) != 0) = true := by simpa using hq
    have HR := Lib.hid hr
    clear hq hr ht
    go_enter Tryz.func24, Tryz.ntmps24
    go_wp2_with fail
    refine HR.out.mono ?_
    rintro e w1 ⟨rfl, hb⟩
    go_wp2_with fail
    go_ret2
    exact ⟨ret_bi HQ.out.2.symm HQ.out.1.symm, B0.trans (hb.mono B0.size)⟩
  obtain ⟨hSp, hT, _, t1, t3, tS⟩ := eR10_zero hq
  have hs := (isSp_iff S).2 hSp
  have hok : okW S [x] 1 = true := (okW_iff S [x] 1).2 fun i hi => by obtain rfl : i = 0 := by omega
                                                                      exact hT 0 (by simp)
  have hxw : 0 ≤ x ∧ x < nW S := by have := hT 0 (by simp); simpa [gi] using this
  have HBAD : Hid (ch10B S L = false → eHc S x L = 2 ∧ vHc S x L = false) := Lib.hid fun h => eHc_bad hs (fun g => by rw [h] at g; cases g.2)
  have HGOOD : Hid (ch10B S L = true → eHc S x L = 0 ∧ vHc S x L = hasC (digs S x) L) := Lib.hid fun h => eHc_ok hs ⟨hok, h⟩
  have HIFF := Lib.hid (ch10B_iff (S := S) ht)
  have HSp := Lib.hid hSp
  have N2 := (nW_bd hSp).2
  rw [hq] at hr
  have HR := Lib.hid hr
  have HTL := Lib.hid ht
  have HXW := Lib.hid hxw
  have HT3 : Hid (1 ≤ t ∧ t ≤ 3 ∧ t ≤ S.length) := Lib.hid (by omega)
  have hS8 := hSp.hi
  clear hq hr hSp hT hs hok ht t1 t3 tS hxw
  by_cases h2 : L.length = 2 * t
  case neg =>
    have HB := Lib.hid (HBAD.out (by cases e : ch10B S L with | false => rfl | true => exact absurd (HIFF.out.1 e).2.1 h2))
    have h2I : ((L.length : Int) != 2 * (t : Int)) = true := by simp; omega
    clear h2
    go_enter Tryz.func24, Tryz.ntmps24
    go_wp2_with fail
    refine HR.out.mono ?_
    rintro e w1 ⟨rfl, hb⟩
    go_wp2_with fail
    go_ret2
    exact ⟨ret_bi HB.out.2.symm HB.out.1.symm, B0.trans (hb.mono B0.size)⟩
  have H2 := Lib.hid h2
  have h2I : ((L.length : Int) != 2 * (t : Int)) = false := by simp; omega
  have hL6 : L.length ≤ 6 := by have := HT3.out; omega
  have E1 : IntKind.i64.wrap ((S.length : Int) - 1) = (S.length : Int) - 1 := IntWalk.i64_in _ ⟨by omega, by omega⟩
  clear h2
  go_enter Tryz.func24, Tryz.ntmps24
  go_wp2_with fail
  refine HR.out.mono ?_
  rintro e w1 ⟨rfl, hb⟩
  have c1 := kept_cell hb c0 l0
  have l1 := lt_of_below hb l0
  have B1 := B0.trans (hb.mono B0.size)
  clear hb c0 l0 B0
  go_wp2_with fail
  go_loopw [10] (fun i wr => ∃ k : Nat, k ≤ t ∧ i = .int .i64 k ∧ Hid (plTo S.length L k = true) ∧ wr.cell? ⟨w.heap.size, 0, none⟩ = some (.slice ao S.length cap) ∧ w.heap.size < wr.heap.size ∧ Below w.heap.size w wr) (fun i _ => t - (intOf i).toNat)
  case atStart => exact ⟨0, Nat.zero_le _, rfl, Lib.hid rfl, c1, l1, B1⟩
  case round =>
    clear c1 l1 B1
    obtain ⟨k, hk, rfl, HK, c1, l, B⟩ := hrel
    have c := c1
    clear c1
    by_cases hlt : k < t
    · have hltI : (k : Int) < (t : Int) := by omega
      have hkL : k < L.length := by have := H2.out; omega
      have hkLI : (k : Int) < (L.length : Int) := by omega
      obtain ⟨b, o, he, hbl, hc⟩ := hLI.at hkL
      simp only [Option.some.injEq, Addr.mk.injEq, and_true] at he
      obtain ⟨rfl, rfl⟩ := he
      have hck : wr.cell? ⟨g, k, none⟩ = some (.int .i64 (gi L k)) := by have := kept_cell B (hc k hkL) hbl; rwa [Nat.zero_add] at this
      by_cases hq : 0 ≤ gi L k ∧ gi L k ≤ (S.length : Int) - 1
      · have B2 := inB_true (n := gi L k) (low := 0) (high := (S.length : Int) - 1) hq.1 hq.2
        have HQ := Lib.hid hq
        clear hq
        by_cases h0 : k = 0
        · have hd : decide ((0 : Int) < (k : Int)) = false := by simp; omega
          have hdN : decide (0 < k) = false := by simp; omega
          have HN : Hid (plTo S.length L (k + 1) = true) := Lib.hid (by
            rw [plTo, HK.out]; have := HQ.out; simp [h0]; subst h0; omega)
          clear hc h0
          go_wp2_with fail
          have fc := fam_cell c
          have fhck := fam_cell hck
          refine wp_region_fam (by kernel_rfl) (by kernel_rfl) ?_
          repeat (go_big_quiet_step ((go_at_call 60; exact fam_same (l01In_any _ _ _ _))))
          refine wpQuiet_nil ?_
          rintro _ ⟨y, rfl⟩
          have hb2 := fam_below y
          generalize fam wr y = w2 at hb2 ⊢
          clear fc fhck
          go_wp2_with fail
          go_roundw
          case rel => exact ⟨k + 1, by omega, by go_num, HN, kept_cell hb2 c l, lt_of_below hb2 l, B.trans (hb2.mono B.size)⟩
          case measure => simp [intOf]; omega
        · obtain ⟨m, rfl⟩ : ∃ m, k = m + 1 := ⟨k - 1, by omega⟩
          have hcm : wr.cell? ⟨g, m, none⟩ = some (.int .i64 (gi L m)) := by have := kept_cell B (hc m (by omega)) hbl; rwa [Nat.zero_add] at this
          have hd : decide ((0 : Int) < ((m + 1 : Nat) : Int)) = true := by simp; try omega
          have hd2 : decide ((0 : Int) < (m : Int) + 1) = true := by simp; try omega
          have hdN : decide (0 < m + 1) = true := by simp
          have E2 : IntKind.i64.wrap ((m : Int) + 1 - 1) = (m : Int) := by rw [IntWalk.i64_in _ ⟨by omega, by omega⟩]; omega
          have E5 : IntKind.i64.wrap (m : Int) = (m : Int) := IntWalk.i64_in _ ⟨by omega, by omega⟩
          have i1 : (0 : Int) ≤ (m : Int) := by omega
          have i2 : (m : Int) < (L.length : Int) := by omega
          have i3 : (m : Int) + 1 < (L.length : Int) := by omega
          have i4 : (0 : Int) ≤ (m : Int) + 1 := by omega
          clear hc h0
          by_cases ha : gi L m < gi L (m + 1)
          · have hda : decide (gi L (m + 1) ≤ gi L m) = false := by simpa using ha
            have HN : Hid (plTo S.length L (m + 1 + 1) = true) := Lib.hid (by
              rw [plTo, HK.out]; have := HQ.out; simp; omega)
            clear ha
            go_wp2_with fail
            have fc := fam_cell c
            have fhck := fam_cell hck
            have fhcm := fam_cell hcm
            refine wp_region_fam (by kernel_rfl) (by kernel_rfl) ?_
            repeat (go_big_quiet_step ((go_at_call 60; exact fam_same (l01In_any _ _ _ _))))
            refine wpQuiet_nil ?_
            rintro _ ⟨y, rfl⟩
            have hb2 := fam_below y
            generalize fam wr y = w2 at hb2 ⊢
            clear fc fhck fhcm
            go_wp2_with fail
            go_roundw
            case rel => exact ⟨m + 1 + 1, by omega, by go_num, HN, kept_cell hb2 c l, lt_of_below hb2 l, B.trans (hb2.mono B.size)⟩
            case measure => simp [intOf]; omega
          · have hda : decide (gi L (m + 1) ≤ gi L m) = true := by simpa using ha
            have HN := Lib.hid (HBAD.out (by cases e : ch10B S L with | false => rfl | true => exact absurd ((plTo_iff _ _ _).1 (HIFF.out.1 e).2.2.1 (m + 1) (by omega)).2 (fun g => ha (g (by omega)))))
            clear ha
            go_wp2_with fail
            have fc := fam_cell c
            have fhck := fam_cell hck
            have fhcm := fam_cell hcm
            refine wp_region_fam (by kernel_rfl) (by kernel_rfl) ?_
            repeat (go_big_quiet_step ((go_at_call 60; exact fam_same (l01In_any _ _ _ _))))
            refine wpQuiet_nil ?_
            rintro _ ⟨y, rfl⟩
            have hb2 := fam_below y
            generalize fam wr y = w2 at hb2 ⊢
            clear fc fhck fhcm
            go_wp2_with fail
            go_ret2
            exact ⟨ret_bi HN.out.2.symm HN.out.1.symm, B.trans (hb2.mono B.size)⟩
      · have B2 := inB_false (n := gi L k) (low := 0) (high := (S.length : Int) - 1) hq
        have HN := Lib.hid (HBAD.out (by cases e : ch10B S L with | false => rfl | true => exact absurd ((plTo_iff _ _ _).1 (HIFF.out.1 e).2.2.1 k hlt).1 (fun g => hq (by omega))))
        clear hq hc
        go_wp2_with fail
        have fc := fam_cell c
        have fhck := fam_cell hck
        refine wp_region_fam (by kernel_rfl) (by kernel_rfl) ?_
        repeat (go_big_quiet_step ((go_at_call 60; exact fam_same (l01In_any _ _ _ _))))
        refine wpQuiet_nil ?_
        rintro _ ⟨y, rfl⟩
        have hb2 := fam_below y
        generalize fam wr y = w2 at hb2 ⊢
        clear fc fhck
        go_wp2_with fail
        go_ret2
        exact ⟨ret_bi HN.out.2.symm HN.out.1.symm, B.trans (hb2.mono B.size)⟩
    · have hltI : ¬ (k : Int) < (t : Int) := by omega
      have HPT : Hid (plTo S.length L t = true) := Lib.hid (by rw [← (show k = t by omega)]; exact HK.out)
      obtain ⟨wp, hwp⟩ : ∃ wp, wp = wr := ⟨_, rfl⟩
      subst hwp
      clear E1
      go_wp2_with fail
      go_loopw [11] (fun i wr => ∃ k : Nat, k ≤ t ∧ i = .int .i64 k ∧ Hid (∀ j, j < k → 0 ≤ gi L (t + j) ∧ gi L (t + j) < gi S (gi L j).toNat) ∧ wr.cell? ⟨w.heap.size, 0, none⟩ = some (.slice ao S.length cap) ∧ w.heap.size < wr.heap.size ∧ Below w.heap.size w wr) (fun i _ => t - (intOf i).toNat)
      case atStart => exact ⟨0, Nat.zero_le _, rfl, Lib.hid (fun j hj => by omega), c, l, B⟩
      case round =>
        clear c l B
        obtain ⟨q, hq, rfl, HD, c, l, B⟩ := hrel
        by_cases hlq : q < t
        · have hlqI : (q : Int) < (t : Int) := by omega
          have hL2 := H2.out
          obtain ⟨b, o, he, hbl, hc⟩ := hLI.at (show q < L.length by omega)
          simp only [Option.some.injEq, Addr.mk.injEq, and_true] at he
          obtain ⟨rfl, rfl⟩ := he
          have hck : wr.cell? ⟨g, q, none⟩ = some (.int .i64 (gi L q)) := by have := kept_cell B (hc q (by omega)) hbl; rwa [Nat.zero_add] at this
          have hcd : wr.cell? ⟨g, t + q, none⟩ = some (.int .i64 (gi L (t + q))) := by have := kept_cell B (hc (t + q) (by omega)) hbl; rwa [Nat.zero_add] at this
          have hin := ((plTo_iff _ _ _).1 HPT.out q hlq).1
          obtain ⟨p, hp⟩ : ∃ p : Nat, gi L q = (p : Int) := ⟨(gi L q).toNat, by omega⟩
          have hpS : p < S.length := by omega
          obtain ⟨bS, oS, rfl, hbS, hcS⟩ := hS.at hpS
          have hcs : wr.cell? ⟨bS, oS + p, none⟩ = some (.int .i64 (gi S p)) := kept_cell B (hcS p hpS) hbS
          have hpI : (p : Int) < (S.length : Int) := by omega
          have hp0 : (0 : Int) ≤ (p : Int) := by omega
          have hgS := HSp.out.bd p hpS
          have HP : Hid (gi S (gi L q).toNat = gi S p) := Lib.hid (by rw [hp, Int.toNat_natCast])
          rw [hp] at hck
          obtain ⟨v, hv⟩ : ∃ v, v = gi S p := ⟨_, rfl⟩
          rw [← hv] at hcs hgS HP
          have Ew : IntKind.i64.wrap (v - 1) = v - 1 := IntWalk.i64_in _ ⟨by omega, by omega⟩
          have Ea : IntKind.i64.wrap ((t : Int) + (q : Int)) = ((t + q : Nat) : Int) := by rw [IntWalk.i64_in _ ⟨by omega, by omega⟩]; push_cast; rfl
          have Ea2 : IntKind.i64.wrap ((t : Int) + (q : Int)) = (t : Int) + (q : Int) := IntWalk.i64_in _ ⟨by omega, by omega⟩
          have a1 : (t : Int) + (q : Int) < (L.length : Int) := by omega
          have a0 : (0 : Int) ≤ (t : Int) + (q : Int) := by omega
          have q1 : (q : Int) < (L.length : Int) := by omega
          have at1 : ((t : Int) + (q : Int)).toNat = t + q := by omega
          clear hc hcS hin hp hv hL2
          by_cases hr : 0 ≤ gi L (t + q) ∧ gi L (t + q) ≤ v - 1
          · have Bq := inB_true (n := gi L (t + q)) (low := 0) (high := v - 1) hr.1 hr.2
            have HN : Hid (∀ j, j < q + 1 → 0 ≤ gi L (t + j) ∧ gi L (t + j) < gi S (gi L j).toNat) := Lib.hid fun j hj => by
              by_cases e : j = q
              · subst e; rw [HP.out]; omega
              · exact HD.out j (by omega)
            clear hr
            go_wp2_with fail
            have fc := fam_cell c
            have fhck := fam_cell hck
            have fhcd := fam_cell hcd
            have fhcs := fam_cell hcs
            refine wp_region_fam (by kernel_rfl) (by kernel_rfl) ?_
            repeat (go_big_quiet_step ((go_at_call 60; exact fam_same (l01In_any _ _ _ _))))
            refine wpQuiet_nil ?_
            rintro _ ⟨y, rfl⟩
            have hb2 := fam_below y
            generalize fam wr y = w2 at hb2 ⊢
            clear fc fhck fhcd fhcs
            go_wp2_with fail
            go_roundw
            case rel => exact ⟨q + 1, by omega, by go_num, HN, kept_cell hb2 c l, lt_of_below hb2 l, B.trans (hb2.mono B.size)⟩
            case measure => simp [intOf]; omega
          · have Bq := inB_false (n := gi L (t + q)) (low := 0) (high := v - 1) hr
            have HN := Lib.hid (HBAD.out (by cases e : ch10B S L with | false => rfl | true => exact absurd ((HIFF.out.1 e).2.2.2 q hlq) (fun g => hr (by rw [HP.out] at g; omega))))
            clear hr
            go_wp2_with fail
            have fc := fam_cell c
            have fhck := fam_cell hck
            have fhcd := fam_cell hcd
            have fhcs := fam_cell hcs
            refine wp_region_fam (by kernel_rfl) (by kernel_rfl) ?_
            repeat (go_big_quiet_step ((go_at_call 60; exact fam_same (l01In_any _ _ _ _))))
            refine wpQuiet_nil ?_
            rintro _ ⟨y, rfl⟩
            have hb2 := fam_below y
            generalize fam wr y = w2 at hb2 ⊢
            clear fc fhck fhcd fhcs
            go_wp2_with fail
            go_ret2
            exact ⟨ret_bi HN.out.2.symm HN.out.1.symm, B.trans (hb2.mono B.size)⟩
        · have hlqI : ¬ (q : Int) < (t : Int) := by omega
          have HV := Lib.hid (HGOOD.out (HIFF.out.2 ⟨HT3.out, H2.out, HPT.out, fun k hk => HD.out k (by omega)⟩))
          have x0 := HXW.out.1
          have x1 : x ≤ 9223372036854775807 := by have := HXW.out.2; omega
          have hcb : ∀ k, k < t → 0 ≤ gi L k ∧ gi L k < S.length := fun k hk => ((plTo_iff _ _ _).1 HPT.out k hk).1
          have hhas := fun (gD : Nat) (W : World) (h1 : Ints W (some ⟨gD, 0, none⟩) (digs S x)) (h2' : Ints W (some ⟨g, 0, none⟩) L) => l10Has_any gD S.length S.length (digs S x) g L.length cL t L (digs_length _ _) hS8 rfl H2.out HT3.out.2.1 hcb W h1 h2'
          have HH := Lib.hid hhas
          clear hhas hcb
          go_wp2_with fail
          refine (l01Digits_any ao S cap hS8 HSp.out.bd x x0 x1 _ (hS.below B)).mono ?_
          rintro e w5 ⟨gD, rfl, oD, hb5⟩
          have B5 := B.trans (hb5.mono B.size)
          go_wp2_with fail
          refine (HH.out gD _ (own_ints oD) (hLI.below B5)).mono ?_
          rintro e w6 ⟨rfl, hb6⟩
          go_wp2_with fail
          go_ret2
          exact ⟨ret_bi HV.out.2.symm HV.out.1.symm, B5.trans (hb6.mono B5.size)⟩

end Go.Proofs.YtpmfedllbiblbaaGreat

/-
  The contracts of CodesTogether and CodesInCommon. By an AI agent.
-/
import Derived.Test.YtpboeoidbimmcaaSet
import Derived.Test.YtpboeoidbimmcaaDel
import Derived.Test.YtpboeoidbimmcaaPut
import Derived.Test.YtpboeoidbimmcaaErr
import Derived.Test.YtpboeoidbimmcaaFar5
import Derived.Shelf.GgClosure.Gives
namespace Go.Proofs.Ytpboeoidbimmcaa
open Go.RowKit Cv
set_option linter.unusedVariables false
set_option linter.unusedSimpArgs false
set_option maxRecDepth 100000

theorem enter_lacks : ∀ args w, (callFunc 88 args).run Try.prog w = .ok (.enter 88 args) w := enters_of Try.func88 (by kernel_rfl) rfl

/-- the error of a space and codes of it, the first k -/
def eTo (S : List Int) (L : Nat → List Int) : Nat → Int
  | 0 => 0
  | k + 1 => if eTo S L k = 0 then eCode S (L k) else eTo S L k
theorem eTo_stop {S : List Int} {L : Nat → List Int} {k : Nat} (h : eTo S L k ≠ 0) : ∀ m, k ≤ m → eTo S L m = eTo S L k := by
  intro m hm
  induction m with
  | zero => have : k = 0 := by omega
            subst this; rfl
  | succ m ih =>
    by_cases e : k = m + 1
    · subst e; rfl
    · have := ih (by omega)
      rw [eTo, this, if_neg h]

theorem codesError_n (ao : Option Addr) (S : List Int) (cap : Nat) (hn : S.length ≤ 4294967296) (b n : Nat) (hn8 : n ≤ 8) (A : Nat → Option Addr) (L : Nat → List Int) (K : Nat → Nat) (w : World) (hS : Ints w ao S) (hb : b < w.heap.size)
    (hc : ∀ k, k < n → w.cell? ⟨b, k, none⟩ = some (.slice (A k) (L k).length (K k))) (hL : ∀ k, k < n → Ints w (A k) (L k) ∧ (L k).length ≤ 4294967296) :
    Calls Try.prog 84 #[.agg #[.slice ao S.length cap], .slice (some ⟨b, 0, none⟩) n n] w fun e w' => e = .returned (.int .i64 (eTo S L n)) ∧ Below w.heap.size w w' := by
  have B0 : Below w.heap.size w (w.alloc (.cells #[.slice ao S.length cap] 26)) := by go_grown
  have c0 := cell_new w (.slice ao S.length cap) 26
  have l0 := lt_alloc w (.cells #[.slice ao S.length cap] 26)
  have HL := Lib.hid hL
  have HC := Lib.hid hc
  clear hL hc
  go_enter Try.func84, Try.ntmps84
  go_wp2_with fail
  go_loopw [10] (fun i wr => ∃ k : Nat, k ≤ n ∧ i = .int .i64 k ∧ Hid (eTo S L k = 0) ∧ wr.cell? ⟨w.heap.size, 0, none⟩ = some (.slice ao S.length cap) ∧ w.heap.size < wr.heap.size ∧ Below w.heap.size w wr) (fun i _ => n - (intOf i).toNat)
  case atStart => exact ⟨0, Nat.zero_le _, rfl, Lib.hid rfl, c0, l0, B0⟩
  case round =>
    clear c0 l0 B0
    obtain ⟨k, hk, rfl, HE, c, l, B⟩ := hrel
    by_cases hlt : k < n
    · have hck := kept_cell B (HC.out k hlt) hb
      obtain ⟨hI, hl⟩ := HL.out k hlt
      obtain ⟨a, ha⟩ : ∃ a, a = A k := ⟨_, rfl⟩
      obtain ⟨C, hC⟩ : ∃ C, C = L k := ⟨_, rfl⟩
      obtain ⟨q, hq⟩ : ∃ q, q = K k := ⟨_, rfl⟩
      rw [← ha, ← hC, ← hq] at hck
      rw [← ha, ← hC] at hI
      rw [← hC] at hl
      have HN : Hid (eTo S L (k + 1) = eCode S C) := Lib.hid (by rw [eTo, if_pos HE.out, hC])
      clear ha hC hq
      by_cases hz : eCode S C = 0
      · have hzn : (eCode S C != 0) = false := by simp [hz]
        have HZ := Lib.hid hz
        clear hz
        go_wp2_with fail
        refine (codeError_any ao S cap hn a C q hl _ (hS.below B) (hI.below B)).mono ?_
        rintro e w2 ⟨rfl, hb2⟩
        replace c := kept_cell hb2 c l
        replace l := lt_of_below hb2 l
        replace B := B.trans (hb2.mono B.size)
        clear hb2 hck
        go_wp2_with fail
        go_roundw
        case rel => exact ⟨k + 1, by omega, by go_num, Lib.hid (by rw [HN.out, HZ.out]), c, l, B⟩
        case measure => simp [intOf]; omega
      · have hzn : (eCode S C != 0) = true := by simpa using hz
        have HZ : Hid (eTo S L n = eCode S C) := Lib.hid (by rw [← HN.out]; exact eTo_stop (by rw [HN.out]; exact hz) n (by omega))
        clear hz
        go_wp2_with fail
        refine (codeError_any ao S cap hn a C q hl _ (hS.below B) (hI.below B)).mono ?_
        rintro e w2 ⟨rfl, hb2⟩
        replace B := B.trans (hb2.mono B.size)
        clear hb2 hck
        go_wp2_with fail
        go_ret
        exact ⟨ret_int HZ.out.symm, B⟩
    · have ek : Hid (k = n) := Lib.hid (by omega)
      go_wp2_with fail
      go_ret
      exact ⟨ret_int (by rw [← ek.out, HE.out]), B⟩

theorem codesError_2 (ao : Option Addr) (S : List Int) (cap : Nat) (hn : S.length ≤ 4294967296) (ac ad : Option Addr) (C D : List Int) (capc capd : Nat) (hlc : C.length ≤ 4294967296) (hld : D.length ≤ 4294967296) (w w0 : World) (b : Nat) (t : TypeId)
    (hw : w = w0.alloc (.cells #[.slice ac C.length capc, .slice ad D.length capd] t)) (hb : b = w0.heap.size) (hS : Ints w ao S) (hC : Ints w ac C) (hD : Ints w ad D) :
    Calls Try.prog 84 #[.agg #[.slice ao S.length cap], .slice (some ⟨b, 0, none⟩) 2 2] w fun e w' => e = .returned (.int .i64 (eTwo S C D)) ∧ Below w.heap.size w w' := by
  have hE : eTo S (fun k => if k = 0 then C else D) 2 = eTwo S C D := by simp [eTo, eTwo]
  rw [← hE]
  refine codesError_n ao S cap hn b 2 (by omega) (fun k => if k = 0 then ac else ad) (fun k => if k = 0 then C else D) (fun k => if k = 0 then capc else capd) w hS (by rw [hw, hb]; simp) ?_ ?_
  · intro k hk
    have : k = 0 ∨ k = 1 := by omega
    rcases this with rfl | rfl <;> (rw [hw, hb]; simp)
  · intro k hk
    have : k = 0 ∨ k = 1 := by omega
    rcases this with rfl | rfl
    · exact ⟨hC, hlc⟩
    · exact ⟨hD, hld⟩

theorem own_made_some {w : World} {base m : Nat} {v v' : Value} {L : List Int} (h : OwnInts w base v' L) (hnil : v' = .slice none 0 0 ↔ v = .slice none 0 0 ∧ m = 0) (hv : v ≠ .slice none 0 0) : ∃ g c, v' = .slice (some ⟨g, 0, none⟩) L.length c := by
  rcases h.2 with ⟨h1, _⟩ | ⟨g, c, cur, h1, _⟩
  · exact absurd (hnil.1 h1).1 hv
  · exact ⟨g, c, h1⟩
theorem clone_any (g0 : Nat) (L : List Int) (cap base : Nat) (w : World) (hl : L.length ≤ 1048576) (hb : base ≤ w.heap.size) (a : Addr) (hL : Ints w (some a) L) :
    Calls Try.prog 66 #[.slice (some a) L.length cap] w fun e w' => ∃ g c, e = .returned (.slice (some ⟨g, 0, none⟩) L.length c) ∧ OwnInts w' w.heap.size (.slice (some ⟨g, 0, none⟩) L.length c) L ∧ Below w.heap.size w w' := by
  have B0 : Below w.heap.size w (w.alloc (.cells #[] 2)) := by go_grown
  have o0 := own_empty w w.heap.size (Nat.le_refl _) rfl
  have hnil0 := Lib.run_eql_slice_nil (P := Try.prog) w 22 2 (some a) L.length cap 0 0 Try.underlying22
  go_enter Try.func66, Try.ntmps66
  go_wp2_with (at_builtin; refine wpList_append_ints rfl _ _ rfl w.heap.size _ [] rfl o0 a L L.length cap rfl rfl (hL.below B0) (by simp; omega) B0.size ?_; intro v' w4 hown' hgrow hnil; have hb4 := grown_below B0 B0.size hgrow o0 (Nat.le_refl _); rw [List.nil_append] at hown'; obtain ⟨g, c, hv⟩ := own_made_some hown' hnil (fun h => absurd (Value.slice.inj h).1 (by simp)); subst hv)
  go_ret
  exact ⟨g, c, rfl, hown', hb4⟩

theorem impl_CodesInCommon (ao : Option Addr) (S : List Int) (cap : Nat) (hn : S.length ≤ 4294967296) (ac : Addr) (C : List Int) (capc : Nat) (hnc : C.length ≤ 4294967296) (ad : Option Addr) (D : List Int) (capd : Nat) (hnd : D.length ≤ 4294967296) (w : World) (hS : Ints w ao S) (hC : Ints w (some ac) C) (hD : Ints w ad D) :
    Calls Try.prog 39 #[.agg #[.slice ao S.length cap], .slice (some ac) C.length capc, .slice ad D.length capd] w fun e w' => ∃ v, e = .returned (.tuple #[v, .int .i64 (eTwo S C D)]) ∧ OwnInts w' w.heap.size v (vCom S C D) ∧ Below w.heap.size w w' := by
  have B0 : Below w.heap.size w (w.alloc (.cells #[.slice ao S.length cap] 26)) := by go_grown
  have B1 : Below w.heap.size w ((w.alloc (.cells #[.slice ao S.length cap] 26)).alloc (.cells #[.slice (some ac) C.length capc, .slice ad D.length capd] 22)) := by go_grown
  by_cases hz : eTwo S C D = 0
  · have hzn : (eTwo S C D != 0) = false := by simp [hz]
    have HZ := Lib.hid hz
    have HV := Lib.hid (vCom_filter hz)
    obtain ⟨z1, z2⟩ := eTwo_zero hz
    have hC4 := code_len0 z1
    obtain ⟨hs, c1, c2⟩ := eCode_zero z1
    obtain ⟨_, d1, d2⟩ := eCode_zero z2
    have N1 := nW_bd hs
    have HCb : Hid (∀ x, x ∈ C → 0 ≤ x ∧ x < 1024) := Lib.hid fun x hx => by obtain ⟨j, hj, e⟩ := mem_gi hx; have := c1 j hj; omega
    have HDb : Hid (∀ i, i < D.length → 0 ≤ gi D i ∧ gi D i < 1024) := Lib.hid fun i hi => by have := d1 i hi; omega
    clear hz z1 z2 hs c1 c2 d1 d2 N1
    go_enter Try.func39, Try.ntmps39
    go_wp2_with fail
    refine (codesError_2 ao S cap hn (some ac) ad C D capc capd hnc hnd _ _ _ _ rfl (by simp) (hS.below B1) (hC.below B1) (hD.below B1)).mono ?_
    rintro e w1 ⟨rfl, hb1⟩
    have B := B1.trans (hb1.mono B1.size)
    have hs1 := B.size
    clear hb1 B1 B0
    go_wp2_with fail
    refine (clone_any 0 C capc w.heap.size _ (by omega) hs1 ac (hC.below B)).mono ?_
    rintro e w2 ⟨g, c, rfl, own, hb2⟩
    replace own := own.rebase (base' := w.heap.size) hs1
    have B2 := B.trans (hb2.mono hs1)
    have hs2 := B2.size
    go_wp2_with fail
    refine (setOf_any ad D capd hnd HDb.out _ (hD.below B2)).mono ?_
    rintro e w3 ⟨rfl, hb3⟩
    have own3 := own.below hb3
    have B3 := B2.trans (hb3.mono hs2)
    have hs3 := B3.size
    go_wp2_with fail
    refine (deleteFunc_any w.heap.size g c C 88 enter_lacks #[.agg (setA (inL D))] #[] (fun x => !inL D x.toNat) w3 (by omega) own3 ?_).mono ?_
    · intro W x hW hx
      have hx2 := HCb.out x hx
      obtain ⟨u, rfl⟩ : ∃ u : Nat, x = (u : Int) := ⟨x.toNat, by omega⟩
      exact lacks_any (inL D) u (by omega) W
    rintro e w4 ⟨v, rfl, own4, hb4⟩
    go_wp2_with fail
    go_ret2
    refine ⟨_, by rw [HZ.out]; rfl, ?_, B3.trans (below_of_grown hb4 own3.base_le.1 (by omega))⟩
    rw [HV.out]
    have : (C.filter fun x => !!inL D x.toNat) = C.filter fun x => decide (x ∈ D) := List.filter_congr fun x hx => by
      have := HCb.out x hx
      simp [inL, Int.toNat_of_nonneg this.1]
    rw [this] at own4
    exact own4
  · have hzn : (eTwo S C D != 0) = true := by simpa using hz
    have HV : Hid (vCom S C D = []) := Lib.hid (by unfold vCom; rw [if_neg hz])
    clear hz
    go_enter Try.func39, Try.ntmps39
    go_wp2_with fail
    refine (codesError_2 ao S cap hn (some ac) ad C D capc capd hnc hnd _ _ _ _ rfl (by simp) (hS.below B1) (hC.below B1) (hD.below B1)).mono ?_
    rintro e w1 ⟨rfl, hb1⟩
    have B := B1.trans (hb1.mono B1.size)
    go_wp2_with fail
    go_ret2
    exact ⟨_, rfl, by rw [HV.out]; exact own_nil _ _, B⟩

end Go.Proofs.Ytpboeoidbimmcaa

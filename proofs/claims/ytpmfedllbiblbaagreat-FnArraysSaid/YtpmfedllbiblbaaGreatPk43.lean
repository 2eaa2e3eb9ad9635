/-
  Texts put together: MathPa, MathPg, MathEs, DrwB, DrwD. By an AI agent.
-/
import Derived.Test.YtpmfedllbiblbaaGreatPk2
import Derived.Test.YtpmfedllbiblbaaGreatPkLrs10
import Derived.Test.YtpmfedllbiblbaaGreatPkNcsA
import Derived.Test.YtpmfedllbiblbaaGreatPk41
import Derived.Test.YtpmfedllbiblbaaGreatPk39
import Derived.Test.YtpmfedllbiblbaaGreatPk33
import Derived.Lib.MinMax
import Derived.Deep.Cut
namespace Go.Proofs.YtpmfedllbiblbaaGreat
open Go.RowKit Cv
set_option linter.unusedVariables false
set_option linter.unusedSimpArgs false

/-- the choices of C that no row of R has -/
def msF (S : List Int) (C : List (List Int)) (R : List Int) : List (List Int) := C.filter fun c => !(R.any fun x => hasC (digs S x) c)
theorem take_gi (R : List Int) (n : Nat) (h : n < R.length) : R.take (n + 1) = R.take n ++ [gi R n] := by
  rw [List.take_add_one, List.getElem?_eq_getElem h, gi_lt _ _ h]; rfl
theorem ms_take (S : List Int) (C : List (List Int)) (R : List Int) : ∀ n, n ≤ R.length → msTo S C R n = msF S C (R.take n)
  | 0, _ => by rw [msTo]; unfold msF; exact (List.filter_eq_self.2 fun a _ => by simp).symm
  | n + 1, h => by
    rw [msTo, ms_take S C R n (by omega), take_gi R n (by omega)]
    unfold msF
    rw [List.filter_filter]
    refine List.filter_congr fun c _ => ?_
    rw [List.any_append]
    simp [Bool.and_comm]
theorem ms_full (S : List Int) (C : List (List Int)) (R : List Int) : msTo S C R R.length = msF S C R := by
  rw [ms_take S C R _ (Nat.le_refl _), List.take_length]
theorem msF_app (S : List Int) (C : List (List Int)) (R Q : List Int) : msF S C (R ++ Q) = (msF S C R).filter fun c => !(Q.any fun x => hasC (digs S x) c) := by
  unfold msF
  rw [List.filter_filter]
  refine List.filter_congr fun c _ => ?_
  rw [List.any_append]
  simp [Bool.and_comm]
theorem msF_swap (S : List Int) (C : List (List Int)) (R Q P : List Int) : msF S C (R ++ Q ++ P) = msF S C (R ++ P ++ Q) := by
  unfold msF
  refine List.filter_congr fun c _ => ?_
  simp only [List.any_append]
  cases R.any fun x => hasC (digs S x) c <;> cases Q.any fun x => hasC (digs S x) c <;> cases P.any fun x => hasC (digs S x) c <;> rfl
/-- the kept rows and the rows behind lack what all rows lack -/
theorem lr_ms (S : List Int) (C : List (List Int)) (R : List Int) : ∀ k, k ≤ R.length → msF S C (lrTo S C R k ++ R.drop k) = msF S C R
  | 0, _ => by simp [lrTo]
  | k + 1, h => by
    have ih := lr_ms S C R k (by omega)
    have ed : R.drop k = [gi R k] ++ R.drop (k + 1) := by
      rw [List.drop_eq_getElem_cons (by omega), gi_lt _ _ (by omega : k < R.length)]; rfl
    rw [ed, ← List.append_assoc] at ih
    rw [lrTo]
    split
    · exact ih
    · rename_i hc
      rw [← ih, msF_swap]
      have e1 := ms_full S C (lrTo S C R k ++ R.drop (k + 1) ++ [gi R k])
      rw [List.length_append] at e1
      have e1' : msTo S C (lrTo S C R k ++ R.drop (k + 1) ++ [gi R k]) ((lrTo S C R k ++ R.drop (k + 1)).length + 1) = msF S C (lrTo S C R k ++ R.drop (k + 1) ++ [gi R k]) := e1
      rw [e1', ms_full] at hc
      rw [msF_app S C (lrTo S C R k ++ R.drop (k + 1)) [gi R k]] at hc ⊢
      symm
      exact List.Sublist.eq_of_length (List.filter_sublist) (Nat.le_antisymm (List.length_filter_le _ _) (Nat.le_of_not_lt hc))
theorem lr_same (S : List Int) (C : List (List Int)) (R : List Int) : msTo S C (lrTo S C R R.length) (lrTo S C R R.length).length = msTo S C R R.length := by
  have := lr_ms S C R R.length (Nat.le_refl _)
  rw [List.drop_length, List.append_nil] at this
  rw [ms_full, ms_full, this]
/-- what the lean rows are: rows of the same kind that lack the same choices -/
theorem lr_all {S R : List Int} {t : Int} (h : eR10 S R t = 0) : eR10 S (vLr S R t) t = 0 ∧ (vLr S R t).length ≤ R.length ∧ mL S (vLr S R t) t.toNat = mL S R t.toNat := by
  obtain ⟨hS, hR, hl, h1, h3, hn⟩ := eR10_zero h
  have e : vLr S R t = lrTo S (allC S t.toNat) R R.length := by unfold vLr; rw [if_pos h]
  have hlen := lrTo_len S (allC S t.toNat) R R.length
  refine ⟨?_, by rw [e]; exact hlen, by rw [e]; exact lr_same S (allC S t.toNat) R⟩
  rw [e]
  have hb : ∀ i, i < (lrTo S (allC S t.toNat) R R.length).length → 0 ≤ gi (lrTo S (allC S t.toNat) R R.length) i ∧ gi (lrTo S (allC S t.toNat) R R.length) i < nW S := fun i hi => by
    obtain ⟨j, hj, ej⟩ := lrTo_mem S (allC S t.toNat) R R.length (Nat.le_refl _) _ (gi_mem hi)
    rw [ej]; exact hR j hj
  have hl2 : (lrTo S (allC S t.toNat) R R.length).length ≤ 200 := by omega
  unfold eR10
  rw [if_pos ((isSp_iff S).2 hS), if_pos ⟨(okW_iff S _ _).2 hb, hl2⟩]
  exact eC10_ok ((isSp_iff S).2 hS) ⟨h1, h3, hn⟩
/-- the sum of what each row adds is what all rows have -/
theorem nw_sum (S : List Int) (C : List (List Int)) (R : List Int) (n : Nat) : ∀ k, k ≤ n → wsT (fun _ => 1) (nwL S C R n) k = (C.length : Int) - ((msTo S C R k).length : Int)
  | 0, _ => by simp [wsT, msTo]
  | k + 1, h => by
    rw [wsT, nw_sum S C R n k (by omega)]
    have : gi (nwL S C R n) k = ((msTo S C R k).length : Int) - ((msTo S C R (k + 1)).length : Int) := by simp [nwL, gi, show k < n by omega]
    rw [this]; omega
end Go.Proofs.YtpmfedllbiblbaaGreat

namespace Go.Proofs.YtpmfedllbiblbaaGreat
open Go.RowKit Cv
set_option linter.unusedVariables false
set_option linter.unusedSimpArgs false

theorem riG_end {S : List Int} (hS : Sp S) {t N : Nat} (hN : nW S = (N : Int)) (hC : (allC S t).length ≤ 1024) : ∀ (m : Nat) (O : List Int) (L : List (List Int)), RiG S (allC S t) N O L → (∀ x, x ∈ O → 0 ≤ x ∧ x < (N : Int)) → (upL (psG S (allC S t) N) N).length ≤ O.length + m →
    ∃ O', RiG S (allC S t) N O' [] ∧ ∀ x, x ∈ O' → 0 ≤ x ∧ x < (N : Int)
  | 0, O, L, h, hO, hm => by
    by_cases e : L = []
    · subst e; exact ⟨O, h, hO⟩
    · have := (riG_step hS hN hC h e).2.1; omega
  | m + 1, O, L, h, hO, hm => by
    by_cases e : L = []
    · subst e; exact ⟨O, h, hO⟩
    · obtain ⟨s1, s2, s3⟩ := riG_step hS hN hC h e
      refine riG_end hS hN hC m _ _ s3 (fun x hx => ?_) (by rw [List.length_append, List.length_singleton]; omega)
      rcases List.mem_append.1 hx with g | g
      · exact hO x g
      · rw [List.mem_singleton] at g; omega
/-- greedy rows without an error -/
theorem gu_all {S : List Int} {t : Int} (h : eGu S t = 0) : eC10 S t = 0 ∧ eR10 S (vGu S t) 1 = 0 ∧ t ≤ vSt S (vGu S t) ∧ vCb S t ≤ (vGu S t).length := by
  have h0 : eC10 S t = 0 := by
    by_cases e : eC10 S t = 0
    · exact e
    · unfold eGu at h; rw [if_neg e] at h; exact absurd h e
  obtain ⟨hS, h1, h3, hn⟩ := eC10_zero h0
  obtain ⟨NN1, NN2⟩ := nW_bd hS
  obtain ⟨N, hN⟩ : ∃ N : Nat, nW S = (N : Int) := ⟨(nW S).toNat, by omega⟩
  have hC : (allC S t.toNat).length ≤ 1024 := by have := allC_le hS (t := t.toNat) (by omega) (by omega); omega
  obtain ⟨O, hO, hr⟩ := riG_end hS hN hC _ [] _ (riG_0 S (allC S t.toNat) N) (fun x hx => by simp at hx) (Nat.le_add_left _ _)
  have eO := riG_done hS hN hC hO
  have hl : (upL (psG S (allC S t.toNat) (nW S).toNat) (nW S).toNat).length ≤ 200 := by
    unfold eGu upE at h
    rw [if_pos h0] at h
    by_cases e : (upL (psG S (allC S t.toNat) (nW S).toNat) (nW S).toNat).length ≤ 200
    · exact e
    · rw [if_neg e] at h; omega
  have eV : vGu S t = O := by
    unfold vGu upV
    rw [if_pos h0, if_pos hl, eO, hN]; rfl
  have hl2 : O.length ≤ 200 := by rw [eO]; rw [hN] at hl; exact hl
  have hm : mL S O t.toNat = [] := by
    unfold mL
    rw [ms_full]
    exact hO.l.symm
  have hR : eR10 S O 1 = 0 := by
    unfold eR10
    rw [if_pos ((isSp_iff S).2 hS), if_pos ⟨(okW_iff S _ _).2 fun i hi => by have := hr _ (gi_mem hi); omega, hl2⟩]
    exact eC10_ok ((isSp_iff S).2 hS) ⟨by omega, by omega, by omega⟩
  rw [eV]
  refine ⟨h0, hR, ?_, ?_⟩
  · have := st_ge (S := S) (R := O) (t := t.toNat) (by omega) hm (min 3 S.length) (by omega)
    unfold vSt; rw [if_pos hR]; omega
  · have := top_ge (R := O) hS (t := t.toNat) (by omega) (by omega) (by omega) hm
    unfold vCb; rw [if_pos h0]; exact this
end Go.Proofs.YtpmfedllbiblbaaGreat

namespace Go.Proofs.YtpmfedllbiblbaaGreat
open Go.RowKit Cv
set_option linter.unusedVariables false
set_option linter.unusedSimpArgs false

theorem es_ge (Q : List Int) (h : ∀ i, i < Q.length → 2 ≤ gi Q i) : ∀ t, 0 ≤ es Q t ∧ (t ≤ Q.length → 1 ≤ es Q t) := by
  induction Q with
  | nil => intro t; cases t with
    | zero => exact ⟨by simp [es], fun _ => by simp [es]⟩
    | succ t => exact ⟨by simp [es], fun h => by simp at h⟩
  | cons q Q ih =>
    have h0 : 2 ≤ q := by simpa [gi] using h 0 (by simp)
    have hQ := ih (fun i hi => by simpa [gi] using h (i + 1) (by simp; omega))
    intro t
    cases t with
    | zero => exact ⟨by simp [es], fun _ => by simp [es]⟩
    | succ t =>
      obtain ⟨a1, a2⟩ := hQ t
      obtain ⟨b1, b2⟩ := hQ (t + 1)
      have hm : 0 ≤ q * es Q t := Int.mul_nonneg (by omega) a1
      refine ⟨by simp only [es]; omega, fun hl => ?_⟩
      have h1 := a2 (by simp at hl; omega)
      have hm1 : 1 * 1 ≤ q * es Q t := Int.mul_le_mul (by omega) h1 (by omega) (by omega)
      simp only [es]; omega
theorem allC_ge {S : List Int} (hS : Sp S) {t : Nat} (h : t ≤ S.length) : 1 ≤ (allC S t).length := by
  have h1 := (es_ge S (fun i hi => (hS.bd i hi).1) t).2 h
  have h2 := allC_es hS t
  omega
theorem stTo_hit (S R : List Int) : ∀ m, 1 ≤ stTo S R m → ∃ k, 1 ≤ k ∧ k ≤ m ∧ mL S R k = []
  | 0, h => by simp [stTo] at h
  | m + 1, h => by
    rw [stTo] at h
    by_cases e : mL S R (m + 1) = []
    · exact ⟨m + 1, by omega, by omega, e⟩
    · rw [if_neg e] at h
      obtain ⟨k, h1, h2, h3⟩ := stTo_hit S R m h
      exact ⟨k, h1, by omega, h3⟩
theorem gu_ne {S : List Int} {t : Int} (h : eGu S t = 0) : vGu S t ≠ [] := by
  intro hv
  obtain ⟨h0, h1, h2, _⟩ := gu_all h
  rw [hv] at h1 h2
  obtain ⟨hS, t1, t3, tn⟩ := eC10_zero h0
  have hs : 1 ≤ stTo S [] (min 3 S.length) := by
    unfold vSt at h2
    rw [if_pos h1] at h2
    omega
  obtain ⟨k, k1, k2, k3⟩ := stTo_hit S [] _ hs
  have hl := allC_ge hS (t := k) (by omega)
  have : mL S [] k = allC S k := rfl
  rw [this] at k3
  rw [k3] at hl
  simp at hl

end Go.Proofs.YtpmfedllbiblbaaGreat

namespace Go.Proofs.YtpmfedllbiblbaaGreat
open Go.RowKit Cv
set_option linter.unusedVariables false
set_option linter.unusedSimpArgs false
set_option maxRecDepth 100000

def lenOfB : Value → Nat
  | .slice _ n _ => n
  | _ => 0

set_option maxHeartbeats 8000000 in
theorem l10With_any (a : Option Addr) (n cap : Nat) (hn : n ≤ 4096) (w : World) (hY : Byts w w.heap.size a n) :
    Calls Tryz.prog 37 #[.slice a n cap] w fun e w' => ∃ ax T cx v F y, e = .returned (.tuple #[.agg #[.slice ax T.length cx], v, .int .i64 y]) ∧ Ints w' ax T ∧ (∀ g o, ax = some ⟨g, o, none⟩ → w.heap.size ≤ g) ∧ T.length ≤ 8 ∧ OwnInts w' w.heap.size v F ∧ F.length ≤ 2000 ∧ (-9223372036854775808 ≤ y ∧ y ≤ 9223372036854775807) ∧ Below w.heap.size w w' := by
  obtain ⟨A, hA⟩ : ∃ A, A = w.heap.size := ⟨_, rfl⟩
  obtain ⟨W, hW⟩ : ∃ W, W = w.alloc (.cells #[.slice none 0 0] 26) := ⟨_, rfl⟩
  have zW : W.heap.size = A + 1 := by rw [hW, hA]; simp
  have RA : W.heap[A]? = some (.cells #[.slice none 0 0] 26 (0, 0)) := by rw [hW, hA]; exact heap_alloc_new w _
  have B : Below A w W := by rw [hW, hA]; exact (Below.refl _ w).alloc (Nat.le_refl _) _
  have hY0 : Byts W W.heap.size a n := by rw [zW]; exact ((hY.mono (by omega)).keep fun b o v hb h => by rw [hW]; exact kept_cell ((Below.refl w.heap.size w).alloc (Nat.le_refl _) _) h (by have := World.block_lt_of_cell? w _ h; exact this))
  have hfr := from_any a n cap hn W hY0
  have HA := Lib.hid hA
  have HW := Lib.hid hW
  obtain ⟨b, hb⟩ : ∃ b, b = W.heap.size := ⟨_, rfl⟩
  rw [← hb] at hfr hY0
  have hbA : b = A + 1 := by omega
  have HB := Lib.hid hb
  clear hA hW
  go_enter Tryz.func37, Tryz.ntmps37
  go_wp2_with fail
  rw [← HW.out, ← HA.out]
  refine hfr.mono ?_
  rintro e w1 ⟨rfl, hs, hb1⟩
  rw [hb] at hb1
  replace RA := row_g RA (grown_of_below hb1 none) (by simp)
  replace B := B.trans (hb1.mono (by omega))
  have hAb : A < b := by omega
  have hY1 : Byts w1 w1.heap.size a n := (hY0.keep fun b' o v hb' h => kept_cell hb1 h (by omega)).mono (by have := hs.lt; omega)
  clear hfr hb1 hb zW hbA hY hY0
  have hc := l10Draw_any a n cap hn w1 hY1
  have zb1 := hs.lt
  have zw1 := B.size
  clear hY1
  go_wp2_with fail
  refine hc.mono ?_
  rintro e u1 ⟨ax, T, cx, t, rfl, hI, hax, hT, ht, hb⟩
  replace RA : u1.heap[A]? = some (.cells #[.slice none 0 0] 26 (0, 0)) := row_g RA (grown_of_below hb none) (by simp)
  replace B : Below A w u1 := B.trans (hb.mono (by first | exact B.size | (have := hs.lt; omega)))
  replace hs : Src u1 b a n cap := hs.below hb hs.lt
  have hX : IntsX b u1 ax T := ⟨hI, fun g o e => by have := hax g o e; omega⟩
  clear hc hb hI hax zb1 zw1
  have hAl := row_lt RA
  have hbl := hs.lt
  have hXl0 : ∀ g o, ax = some ⟨g, o, none⟩ → T ≠ [] → g < u1.heap.size := fun g o e hne => by
    rcases hX.1 with h | ⟨g', o', e', hl, _⟩
    · exact absurd (List.eq_nil_of_length_eq_zero h) hne
    · rw [e] at e'; cases e'; exact hl
  obtain ⟨Xb, hXb⟩ : ∃ z, z = u1.heap.size := ⟨_, rfl⟩
  obtain ⟨u2, hu2⟩ : ∃ z, z = u1.alloc (.cells #[.slice ax T.length cx] 26) := ⟨_, rfl⟩
  have RX : u2.heap[Xb]? = some (.cells #[.slice ax T.length cx] 26 (0, 0)) := by rw [hu2, hXb]; exact heap_alloc_new _ _
  replace RA : u2.heap[A]? = some (.cells #[.slice none 0 0] 26 (0, 0)) := by rw [hu2]; exact row_g RA (World.grownBy_alloc _ _ none) (by simp)
  replace B : Below A w u2 := by rw [hu2]; exact B.alloc (by first | exact B.size | omega) _
  replace hs : Src u2 b a n cap := by rw [hu2]; exact hs.alloc _
  replace hX : IntsX b u2 ax T := by rw [hu2]; exact hX.below (B := 0) ((Below.refl _ _).alloc (Nat.le_refl _) _)
  have HXb := Lib.hid hXb
  have Hu2 := Lib.hid hu2
  have hAX : A < Xb := by rw [hXb]; exact hAl
  have hbX : b < Xb := by rw [hXb]; exact hbl
  have hXl1 : ∀ g o, ax = some ⟨g, o, none⟩ → T ≠ [] → g < Xb := by rw [hXb]; exact hXl0
  clear hXb hu2 hAl hbl hXl0
  have hXE := row_lt RX
  obtain ⟨E, hE⟩ : ∃ z, z = u2.heap.size := ⟨_, rfl⟩
  obtain ⟨u3, hu3⟩ : ∃ z, z = u2.alloc (.cells #[] 2) := ⟨_, rfl⟩
  have own : OwnInts u3 E (.slice (some ⟨E, 0, none⟩) 0 0) [] := by rw [hu3, hE]; exact own_empty _ _ (Nat.le_refl _) rfl
  replace RA : u3.heap[A]? = some (.cells #[.slice none 0 0] 26 (0, 0)) := by rw [hu3]; exact row_g RA (World.grownBy_alloc _ _ none) (by simp)
  replace B : Below A w u3 := by rw [hu3]; exact B.alloc (by first | exact B.size | omega) _
  replace hs : Src u3 b a n cap := by rw [hu3]; exact hs.alloc _
  replace hX : IntsX b u3 ax T := by rw [hu3]; exact hX.below (B := 0) ((Below.refl _ _).alloc (Nat.le_refl _) _)
  replace RX : u3.heap[Xb]? = some (.cells #[.slice ax T.length cx] 26 (0, 0)) := by rw [hu3]; exact row_g RX (World.grownBy_alloc _ _ none) (by simp)
  have hEX : Hid (Xb + 1 = E) := Lib.hid (by rw [hE, Hu2.out, World.size_alloc, HXb.out])
  rw [← hE] at hXE
  have hXl : Hid (T ≠ [] → ∀ g o, ax = some ⟨g, o, none⟩ → g < E) := Lib.hid fun hne g o e => by have := hXl1 g o e hne; omega
  clear hXl1
  have HE := Lib.hid hE
  have Hu3 := Lib.hid hu3
  clear hE hu3
  have xX := cell_of1' RX
  have hc := l01Is_any ax T cx u3 (by omega) hX.1
  go_wp2_with fail
  rw [← Hu2.out, ← HXb.out]
  rw [← Hu3.out, hEX.out]
  refine hc.mono ?_
  rintro e u4 ⟨rfl, hb⟩
  replace RA : u4.heap[A]? = some (.cells #[.slice none 0 0] 26 (0, 0)) := row_g RA (grown_of_below hb none) (by simp)
  replace RX : u4.heap[Xb]? = some (.cells #[.slice ax T.length cx] 26 (0, 0)) := row_g RX (grown_of_below hb none) (by simp)
  replace hX := hX.below (B := 0) hb
  replace own := own.below hb
  replace B := B.trans (hb.mono (by have := hs.lt; omega))
  replace hs := hs.below hb hs.lt
  clear hb
  clear hc xX
  go_upto_if 22 with fail
  go_cut [9] from 13 (fun s wx => ∃ M : Int, s = .int .i64 M ∧ 1 ≤ M ∧ M ≤ 1024 ∧ OwnInts wx E (.slice (some ⟨E, 0, none⟩) 0 0) [] ∧ wx.heap[A]? = some (.cells #[.slice none 0 0] 26 (0, 0)) ∧ wx.heap[Xb]? = some (.cells #[.slice ax T.length cx] 26 (0, 0)) ∧ IntsX b wx ax T ∧ Src wx b a n cap ∧ Below A w wx)
  case first => as_aux_lemma =>
    cases hq : isSp T with
    | true =>
      have hSp : Sp T := (isSp_iff T).1 hq
      obtain ⟨N1, N2⟩ := nW_bd hSp
      have hN := l01N_any ax T cx u4 hSp.hi hSp.bd hX.1
      obtain ⟨M, hM⟩ : ∃ M, M = prodTo T T.length := ⟨_, rfl⟩
      unfold nW at N1 N2
      rw [← hM] at N1 N2
      try unfold nW at hN
      rw [← hM] at hN
      clear hM hSp hq
      have xX := cell_of1' RX
      go_wp2_with fail
      refine hN.mono ?_
      rintro e u5 ⟨rfl, hb⟩
      replace RA : u5.heap[A]? = some (.cells #[.slice none 0 0] 26 (0, 0)) := row_g RA (grown_of_below hb none) (by simp)
      replace RX : u5.heap[Xb]? = some (.cells #[.slice ax T.length cx] 26 (0, 0)) := row_g RX (grown_of_below hb none) (by simp)
      replace hX := hX.below (B := 0) hb
      replace own := own.below hb
      replace B := B.trans (hb.mono (by have := hs.lt; omega))
      replace hs := hs.below hb hs.lt
      clear hb
      clear hN xX
      go_wp2_with fail
      go_meet
      exact ⟨M, rfl, N1, N2, own, RA, RX, hX, hs, B⟩
    | false =>
      clear hq
      go_wp2_with fail
      go_meet
      exact ⟨4, rfl, by omega, by omega, own, RA, RX, hX, hs, B⟩
  case rest => as_aux_lemma =>
    clear own RA RX hX hs B
    obtain ⟨M, rfl, N1, N2, own, RA, RX, hX, hs, B⟩ := hcut
    have zlt := hs.lt
    have hnx := next_any b a n cap hn 12 (by omega) wc hs
    go_wp2_with fail
    refine hnx.mono ?_
    rintro e u15 ⟨x, rfl, x0, x1, x2, hs', hg⟩
    replace RA : u15.heap[A]? = some (.cells #[.slice none 0 0] 26 (0, 0)) := row_g RA hg (by simp; omega)
    replace RX : u15.heap[Xb]? = some (.cells #[.slice ax T.length cx] 26 (0, 0)) := row_g RX hg (by simp; omega)
    replace hX := hX.grownR hg (by intro g o e; have := hX.2 g o e; simp; omega)
    replace own := own.kept hg (.inr (fun e => by have := ownBlock_ge5 own e; omega))
    replace B := below_g B (by omega) hg (by omega)
    replace hs := hs'
    clear hg hs' zlt
    clear hnx
    have hx : x < 12 := by have := x2 (by omega); omega
    obtain ⟨k0, rfl⟩ : ∃ k0 : Nat, x = k0 := ⟨x.toNat, by omega⟩
    clear x0 x1 x2
    go_wp2_with fail
    go_loopw [8, 10] (fun lv kv wr => ∃ (k : Nat) (L : List Int) (g c : Nat), kv = .int .i64 (k : Int) ∧ lv = .slice (some ⟨g, 0, none⟩) L.length c ∧ Hid (L.length + k ≤ 12) ∧ OwnInts wr E (.slice (some ⟨g, 0, none⟩) L.length c) L ∧ wr.heap[A]? = some (.cells #[.slice none 0 0] 26 (0, 0)) ∧ wr.heap[Xb]? = some (.cells #[.slice ax T.length cx] 26 (0, 0)) ∧ IntsX b wr ax T ∧ Src wr b a n cap ∧ Below A w wr) (fun _ kv _ => (intOf kv).toNat)
    case atStart => exact ⟨k0, [], E, 0, rfl, rfl, Lib.hid (by simp; omega), own, RA, RX, hX, hs, B⟩
    case round =>
      clear own RA RX hX hs B hx
      obtain ⟨k, L, g, c, rfl, rfl, HL, own, RA, RX, hX, hs, B⟩ := hrel
      have hL := HL.out
      by_cases hkp : 0 < k
      · have i1 : (0 : Int) < (k : Int) := by omega
        have zlt := hs.lt
        have hnx := next_any b a n cap hn M (by omega) wr hs
        go_wp2_with fail
        refine hnx.mono ?_
        rintro e u66 ⟨z, rfl, z0, z1, z2, hs', hg⟩
        replace RA : u66.heap[A]? = some (.cells #[.slice none 0 0] 26 (0, 0)) := row_g RA hg (by simp; omega)
        replace RX : u66.heap[Xb]? = some (.cells #[.slice ax T.length cx] 26 (0, 0)) := row_g RX hg (by simp; omega)
        replace hX := hX.grownR hg (by intro g o e; have := hX.2 g o e; simp; omega)
        replace own := own.kept hg (.inr (fun e => by have := ownBlock_ge5 own e; omega))
        replace B := below_g B (by omega) hg (by omega)
        replace hs := hs'
        clear hg hs' zlt
        clear hnx
        clear z0 z1 z2
        have hzE : E ≤ u66.heap.size := by have := row_lt RX; have := hEX.out; omega
        go_wp2_with (at_builtin; refine wpList_append_int_at rfl _ _ rfl E _ L rfl (own.alloc _) u66.heap.size z rfl (cell_new _ _ _) (by omega) (by simp; omega) ?_; intro v' wz own' hgrow hnew; have RA' := row_g (row_g RA (World.grownBy_alloc u66 (.cells #[.int .i64 z] 2) none) (by simp)) hgrow (fun e => by have := ownBlock_ge5 own e.symm; omega); have RX' := row_g (row_g RX (World.grownBy_alloc u66 (.cells #[.int .i64 z] 2) none) (by simp)) hgrow (fun e => by have := ownBlock_ge5 own e.symm; omega); have xA' := cell_of1' RA'; have fA' := frozen_of_row wz A 0 _ _ RA'; have zA' := row_lt RA'; have xX' := cell_of1' RX')
        obtain ⟨g', c', hv', hob'⟩ := own_some own' (by simp)
        have hX' := (hX.below (B := 0) ((Below.refl _ _).alloc (Nat.le_refl _) (.cells #[.int .i64 z] 2))).grownE hgrow (fun hne g o e e2 => by have h1 := ownBlock_ge5 own e2.symm; have h2 := hXl.out hne g o e; omega)
        have hs2 : Src wz b a n cap := (hs.alloc (.cells #[.int .i64 z] 2)).grownO hgrow (fun g' e => by have := ownBlock_ge5 own e; omega)
        have B' : Below A w wz := (B.alloc (by have := row_lt RA; omega) (.cells #[.int .i64 z] 2)).grown hgrow (by simp; have := row_lt RA; omega) (fun k' hk => by have := ownBlock_ge5 own hk; omega)
        subst hv'
        go_roundw
        case rel => exact ⟨k - 1, L ++ [z], g', c', (by rw [show ((k - 1 : Nat) : Int) = (k : Int) - 1 by omega]), by simp, Lib.hid (by rw [List.length_append, List.length_singleton]; omega), by simpa using own', RA', RX', hX', hs2, B'⟩
        case measure => simp [intOf]; omega
      · have i1 : ¬ (0 : Int) < (k : Int) := by omega
        have xX := cell_of1' RX
        have hG := spec_GreedyRows ax T cx (by omega) t ht wr hX.1
        go_wp2_with fail
        refine hG.mono ?_
        rintro e u66 ⟨vG, rfl, ownG, hb⟩
        have hGl : (vGu T t).length ≤ 1024 := vGu_len T t
        replace ownG := ownG.rebase (base' := E) (by have := row_lt RX; have := hEX.out; omega)
        replace RA : u66.heap[A]? = some (.cells #[.slice none 0 0] 26 (0, 0)) := row_g RA (grown_of_below hb none) (by simp)
        replace RX : u66.heap[Xb]? = some (.cells #[.slice ax T.length cx] 26 (0, 0)) := row_g RX (grown_of_below hb none) (by simp)
        replace hX := hX.below (B := 0) hb
        replace own := own.below hb
        replace B := B.trans (hb.mono (by have := hs.lt; omega))
        replace hs := hs.below hb hs.lt
        clear hb
        clear hG xX
        go_upto_region 11 with fail
        go_cut [49] from 13 (fun s wx => ∃ q : Bool, s = .bool q ∧ (q = true → eGu T t = 0) ∧ OwnInts wx E (.slice (some ⟨g, 0, none⟩) L.length c) L ∧ OwnInts wx E vG (vGu T t) ∧ wx.heap[A]? = some (.cells #[.slice none 0 0] 26 (0, 0)) ∧ wx.heap[Xb]? = some (.cells #[.slice ax T.length cx] 26 (0, 0)) ∧ IntsX b wx ax T ∧ Src wx b a n cap ∧ Below A w wx)
        case first => as_aux_lemma =>
          by_cases hq : eGu T t = 0
          · have b1 : (eGu T t == 0) = true := by simpa using hq
            have HQ := Lib.hid hq
            clear hq
            have zlt := hs.lt
            have hnx := next_any b a n cap hn 3 (by omega) u66 hs
            go_wp2_with fail
            refine hnx.mono ?_
            rintro e u67 ⟨q, rfl, q0, q1, q2, hs', hg⟩
            replace ownG := ownG.kept hg (.inr (fun e => by have := ownBlock_ge5 ownG e; omega))
            replace RA : u67.heap[A]? = some (.cells #[.slice none 0 0] 26 (0, 0)) := row_g RA hg (by simp; omega)
            replace RX : u67.heap[Xb]? = some (.cells #[.slice ax T.length cx] 26 (0, 0)) := row_g RX hg (by simp; omega)
            replace hX := hX.grownR hg (by intro g o e; have := hX.2 g o e; simp; omega)
            replace own := own.kept hg (.inr (fun e => by have := ownBlock_ge5 own e; omega))
            replace B := below_g B (by omega) hg (by omega)
            replace hs := hs'
            clear hg hs' zlt
            clear hnx q0 q1 q2
            go_wp2_with fail
            go_meet
            exact ⟨_, rfl, (fun _ => HQ.out), own, ownG, RA, RX, hX, hs, B⟩
          · have b1 : (eGu T t == 0) = false := by simpa using hq
            clear hq
            go_wp2_with fail
            go_meet
            exact ⟨_, rfl, (fun h => by cases h), own, ownG, RA, RX, hX, hs, B⟩
        case rest => as_aux_lemma =>
          clear own ownG RA RX hX hs B
          obtain ⟨q, rfl, hqG, own, ownG, RA, RX, hX, hs, B⟩ := hcut
          have HqG := Lib.hid hqG
          clear hqG
          go_upto_if 49 with fail
          go_cut [8] from 13 (fun v wx => ∃ (F : List Int) (gF cF : Nat), v = .slice (some ⟨gF, 0, none⟩) F.length cF ∧ F.length ≤ 1030 ∧ OwnInts wx E (.slice (some ⟨gF, 0, none⟩) F.length cF) F ∧ wx.heap[A]? = some (.cells #[.slice none 0 0] 26 (0, 0)) ∧ wx.heap[Xb]? = some (.cells #[.slice ax T.length cx] 26 (0, 0)) ∧ IntsX b wx ax T ∧ Src wx b a n cap ∧ Below A w wx)
          case first => as_aux_lemma =>
            cases hq : q with
            | true =>
              have hGn := Lib.hid (gu_ne (HqG.out hq))
              clear hq
              obtain ⟨hcap, hcm⟩ := own_cap own
              have IT := own_ints_take own (min L.length 2)
              have hlt : (L.take (min L.length 2)).length = min L.length 2 := by rw [List.length_take]; omega
              obtain ⟨aG, cG, hvG⟩ := own_shp ownG
              subst hvG
              have hzE : E ≤ wc.heap.size := by have := row_lt RX; have := hEX.out; omega
              go_wp2_with (at_builtin; refine wpList_append_ints rfl _ _ rfl E _ (vGu T t) rfl ownG ⟨g, 0, none⟩ (L.take (min L.length 2)) _ c (by rw [List.length_take]; first | omega | (simp; omega)) rfl IT (by first | omega | (simp; omega)) (by omega) ?_; intro v' wz own' hgrow hnil; obtain ⟨aF, cF, hvF⟩ := own_shp own'; subst hvF; have RA' := row_g RA hgrow (fun e => by have := ownBlock_ge5 ownG e.symm; omega); have RX' := row_g RX hgrow (fun e => by have := ownBlock_ge5 ownG e.symm; omega))
              have hX' := hX.grownE hgrow (fun hne g o e e2 => by have h1 := ownBlock_ge5 ownG e2.symm; have h2 := hXl.out hne g o e; omega)
              have hs2 := hs.grownO hgrow (fun g' e => by have := ownBlock_ge5 ownG e; omega)
              have B' := B.grown hgrow (by have := row_lt RA; omega) (fun k' hk => by have := ownBlock_ge5 ownG hk; omega)
              go_meet
              obtain ⟨gF, e1⟩ : ∃ gF, aF = some ⟨gF, 0, none⟩ := by (obtain ⟨g2, c2, e2, _⟩ := own_some own' (fun e => hGn.out (List.append_eq_nil_iff.1 e).1); simp only [Value.slice.injEq] at e2; exact ⟨g2, e2.1⟩)
              subst e1
              exact ⟨vGu T t ++ L.take (min L.length 2), gF, cF, (by rw [List.length_append, hlt]), (by rw [List.length_append, hlt]; omega), own', RA', RX', hX', hs2, B'⟩
            | false =>
              clear hq
              go_wp2_with fail
              go_meet
              exact ⟨L, g, c, rfl, by omega, own, RA, RX, hX, hs, B⟩
          case rest => as_aux_lemma =>
            clear own ownG RA RX hX hs B HL hL hkp i1 hGl
            obtain ⟨F, gF, cF, rfl, hF, own, RA, RX, hX, hs, B⟩ := hcut
            have xX := cell_of1' RX
            have zlt := hs.lt
            have hnx := next_any b a n cap hn 24 (by omega) wc hs
            go_wp2_with fail
            refine hnx.mono ?_
            rintro e u117 ⟨s, rfl, s0, s1, s2, hs', hg⟩
            replace RA : u117.heap[A]? = some (.cells #[.slice none 0 0] 26 (0, 0)) := row_g RA hg (by simp; omega)
            replace RX : u117.heap[Xb]? = some (.cells #[.slice ax T.length cx] 26 (0, 0)) := row_g RX hg (by simp; omega)
            replace hX := hX.grownR hg (by intro g o e; have := hX.2 g o e; simp; omega)
            replace own := own.kept hg (.inr (fun e => by have := ownBlock_ge5 own e; omega))
            replace B := below_g B (by omega) hg (by omega)
            replace hs := hs'
            clear hg hs' zlt
            clear hnx
            clear s0 s1 s2 xX
            by_cases hs0 : s = 0
            · have e0 : (s == 0) = true := by simpa using hs0
              clear hs0
              obtain ⟨u118, hu118⟩ : ∃ z, z = u117.alloc (.cells #[.int .i64 (-1), .int .i64 1024, .int .i64 M] 2) := ⟨_, rfl⟩
              have I2 : Ints u118 (some ⟨u117.heap.size, 0, none⟩) [-1, 1024, M] := by rw [hu118]; exact ints_new _ [-1, 1024, M] _
              have zs1 := hs.lt
              have hb : Below u117.heap.size u117 u118 := by rw [hu118]; exact (Below.refl _ _).alloc (Nat.le_refl _) _
              replace RA : u118.heap[A]? = some (.cells #[.slice none 0 0] 26 (0, 0)) := row_g RA (grown_of_below hb none) (by simp)
              replace RX : u118.heap[Xb]? = some (.cells #[.slice ax T.length cx] 26 (0, 0)) := row_g RX (grown_of_below hb none) (by simp)
              replace hX := hX.below (B := 0) hb
              replace own := own.below hb
              replace B := B.trans (hb.mono (by have := hs.lt; omega))
              replace hs := hs.below hb hs.lt
              clear hb
              have hc := pick_n b a n cap hn u117.heap.size _ 3 rfl (by omega) (by omega) (by omega) u118 hs I2
              have Hu118 := Lib.hid hu118
              clear hu118 I2
              have zlt := hs.lt
              go_wp2_with fail
              rw [← Hu118.out]
              refine hc.mono ?_
              rintro e u119 ⟨z, rfl, hz, hs', hg⟩
              replace RA : u119.heap[A]? = some (.cells #[.slice none 0 0] 26 (0, 0)) := row_g RA hg (by simp; omega)
              replace RX : u119.heap[Xb]? = some (.cells #[.slice ax T.length cx] 26 (0, 0)) := row_g RX hg (by simp; omega)
              replace hX := hX.grownR hg (by intro g o e; have := hX.2 g o e; simp; omega)
              replace own := own.kept hg (.inr (fun e => by have := ownBlock_ge5 own e; omega))
              replace B := below_g B (by omega) hg (by omega)
              replace hs := hs'
              clear hg hs' zlt
              clear hc hz zs1
              have hzE : E ≤ u119.heap.size := by have := row_lt RX; have := hEX.out; omega
              go_upto_region 19 with (at_builtin; refine wpList_append_int_at rfl _ _ rfl E _ F rfl (own.alloc _) u119.heap.size z rfl (cell_new _ _ _) (by omega) (by simp; omega) ?_; intro v' wz own' hgrow hnew; have RA' := row_g (row_g RA (World.grownBy_alloc u119 (.cells #[.int .i64 z] 2) none) (by simp)) hgrow (fun e => by have := ownBlock_ge5 own e.symm; omega); have RX' := row_g (row_g RX (World.grownBy_alloc u119 (.cells #[.int .i64 z] 2) none) (by simp)) hgrow (fun e => by have := ownBlock_ge5 own e.symm; omega); have xA' := cell_of1' RA'; have fA' := frozen_of_row wz A 0 _ _ RA'; have zA' := row_lt RA'; have xX' := cell_of1' RX')
              obtain ⟨g', c', hv', hob'⟩ := own_some own' (by simp)
              have hX' := (hX.below (B := 0) ((Below.refl _ _).alloc (Nat.le_refl _) (.cells #[.int .i64 z] 2))).grownE hgrow (fun hne g o e e2 => by have h1 := ownBlock_ge5 own e2.symm; have h2 := hXl.out hne g o e; omega)
              have hs2 : Src wz b a n cap := (hs.alloc (.cells #[.int .i64 z] 2)).grownO hgrow (fun g' e => by have := ownBlock_ge5 own e; omega)
              have B' : Below A w wz := (B.alloc (by have := row_lt RA; omega) (.cells #[.int .i64 z] 2)).grown hgrow (by simp; have := row_lt RA; omega) (fun k' hk => by have := ownBlock_ge5 own hk; omega)
              subst hv'
              clear RA RX hX hs own B xA' fA' zA' xX'
              have RA := RA'
              have RX := RX'
              have hX := hX'
              have hs := hs2
              have own := own'
              have B := B'
              have xA := cell_of1' RA
              have fA := frozen_of_row wz A 0 _ _ RA
              have zA := row_lt RA
              have xX := cell_of1' RX
              have HIe : Ints (wz.setCell ⟨A, 0, none⟩ (.slice ax T.length cx)) ax T := ints_setA hX.1 (fun g o e => by have := hX.2 g o e; omega)
              have owne := (own_setO own A (fun e => by have := ownBlock_ge5 own e; omega) (.slice ax T.length cx)).rebase (base' := w.heap.size) (by have := HA.out; omega)
              have Be : Below A w (wz.setCell ⟨A, 0, none⟩ (.slice ax T.length cx)) := B.setCell (by simp) _
              go_wp2_with (refine bodyPost_ret (by rw [results_cell_tmp2w rfl]; go_simp; try rfl) rfl ?_; exact ⟨ax, T, cx, _, _, t, (by first | rfl | simp), HIe, (fun g o e => by have := hX.2 g o e; have := HA.out; omega), hT, owne, (by first | omega | (simp; omega)), ht, by rw [← HA.out]; exact Be⟩)
            · have e0 : (s == 0) = false := by simpa using hs0
              clear hs0
              by_cases hs1 : s = 1
              · have e1 : (s == 1) = true := by simpa using hs1
                clear hs1
                go_wp2_with fail
                go_loopw [8] (fun lv wr => ∃ (L : List Int) (gL cL : Nat), lv = .slice (some ⟨gL, 0, none⟩) L.length cL ∧ Hid (L.length ≤ 1100) ∧ OwnInts wr E (.slice (some ⟨gL, 0, none⟩) L.length cL) L ∧ wr.heap[A]? = some (.cells #[.slice none 0 0] 26 (0, 0)) ∧ wr.heap[Xb]? = some (.cells #[.slice ax T.length cx] 26 (0, 0)) ∧ IntsX b wr ax T ∧ Src wr b a n cap ∧ Below A w wr) (fun lv _ => 1200 - lenOfB lv)
                case atStart => exact ⟨F, gF, cF, rfl, Lib.hid (by first | omega | (simp; omega)), own, RA, RX, hX, hs, B⟩
                case round =>
                  clear own RA RX hX hs B
                  obtain ⟨G, gG, cG, rfl, HG, own, RA, RX, hX, hs, B⟩ := hrel
                  have hG1 := HG.out
                  by_cases hl : G.length < 201
                  · have i1 : (G.length : Int) < 201 := by omega
                    have hzE : E ≤ wr.heap.size := by have := row_lt RX; have := hEX.out; omega
                    go_wp2_with (at_builtin; refine wpList_append_int_at rfl _ _ rfl E _ G rfl (own.alloc _) wr.heap.size 0 rfl (cell_new _ _ _) (by omega) (by simp; omega) ?_; intro v' wz own' hgrow hnew; have RA' := row_g (row_g RA (World.grownBy_alloc wr (.cells #[.int .i64 0] 2) none) (by simp)) hgrow (fun e => by have := ownBlock_ge5 own e.symm; omega); have RX' := row_g (row_g RX (World.grownBy_alloc wr (.cells #[.int .i64 0] 2) none) (by simp)) hgrow (fun e => by have := ownBlock_ge5 own e.symm; omega); have xA' := cell_of1' RA'; have fA' := frozen_of_row wz A 0 _ _ RA'; have zA' := row_lt RA'; have xX' := cell_of1' RX')
                    obtain ⟨g', c', hv', hob'⟩ := own_some own' (by simp)
                    have hX' := (hX.below (B := 0) ((Below.refl _ _).alloc (Nat.le_refl _) (.cells #[.int .i64 0] 2))).grownE hgrow (fun hne g o e e2 => by have h1 := ownBlock_ge5 own e2.symm; have h2 := hXl.out hne g o e; omega)
                    have hs2 : Src wz b a n cap := (hs.alloc (.cells #[.int .i64 0] 2)).grownO hgrow (fun g' e => by have := ownBlock_ge5 own e; omega)
                    have B' : Below A w wz := (B.alloc (by have := row_lt RA; omega) (.cells #[.int .i64 0] 2)).grown hgrow (by simp; have := row_lt RA; omega) (fun k' hk => by have := ownBlock_ge5 own hk; omega)
                    subst hv'
                    go_roundw
                    case rel => exact ⟨G ++ [0], g', c', (by simp), Lib.hid (by rw [List.length_append, List.length_singleton]; omega), own', RA', RX', hX', hs2, B'⟩
                    case measure => simp [lenOfB]; omega
                  · have i1 : ¬ (G.length : Int) < 201 := by omega
                    have xA := cell_of1' RA
                    have fA := frozen_of_row wr A 0 _ _ RA
                    have zA := row_lt RA
                    have xX := cell_of1' RX
                    have HIe : Ints (wr.setCell ⟨A, 0, none⟩ (.slice ax T.length cx)) ax T := ints_setA hX.1 (fun g o e => by have := hX.2 g o e; omega)
                    have owne := (own_setO own A (fun e => by have := ownBlock_ge5 own e; omega) (.slice ax T.length cx)).rebase (base' := w.heap.size) (by have := HA.out; omega)
                    have Be : Below A w (wr.setCell ⟨A, 0, none⟩ (.slice ax T.length cx)) := B.setCell (by simp) _
                    go_wp2_with (refine bodyPost_ret (by rw [results_cell_tmp2w rfl]; go_simp; try rfl) rfl ?_; exact ⟨ax, T, cx, _, _, t, (by first | rfl | simp), HIe, (fun g o e => by have := hX.2 g o e; have := HA.out; omega), hT, owne, (by first | omega | (simp; omega)), ht, by rw [← HA.out]; exact Be⟩)
              · have e1 : (s == 1) = false := by simpa using hs1
                clear hs1
                have xA := cell_of1' RA
                have fA := frozen_of_row u117 A 0 _ _ RA
                have zA := row_lt RA
                have xX := cell_of1' RX
                have HIe : Ints (u117.setCell ⟨A, 0, none⟩ (.slice ax T.length cx)) ax T := ints_setA hX.1 (fun g o e => by have := hX.2 g o e; omega)
                have owne := (own_setO own A (fun e => by have := ownBlock_ge5 own e; omega) (.slice ax T.length cx)).rebase (base' := w.heap.size) (by have := HA.out; omega)
                have Be : Below A w (u117.setCell ⟨A, 0, none⟩ (.slice ax T.length cx)) := B.setCell (by simp) _
                go_wp2_with (refine bodyPost_ret (by rw [results_cell_tmp2w rfl]; go_simp; try rfl) rfl ?_; exact ⟨ax, T, cx, _, _, t, (by first | rfl | simp), HIe, (fun g o e => by have := hX.2 g o e; have := HA.out; omega), hT, owne, (by first | omega | (simp; omega)), ht, by rw [← HA.out]; exact Be⟩)

end Go.Proofs.YtpmfedllbiblbaaGreat

namespace Go.Proofs.YtpmfedllbiblbaaGreat
open Go.RowKit Cv
set_option linter.unusedVariables false
set_option linter.unusedSimpArgs false
set_option maxRecDepth 100000

set_option maxHeartbeats 8000000 in
theorem drawLr_any (a : Option Addr) (n cap : Nat) (hn : n ≤ 4096) (w : World) (hY : Byts w w.heap.size a n) :
    Calls Tryz.prog 6 #[.slice a n cap] w fun e w' => ∃ ax T cx v F y, e = .returned (.tuple #[.agg #[.slice ax T.length cx], v, .int .i64 y]) ∧ Ints w' ax T ∧ (∀ g o, ax = some ⟨g, o, none⟩ → w.heap.size ≤ g) ∧ T.length ≤ 8 ∧ OwnInts w' w.heap.size v F ∧ F.length ≤ 2000 ∧ (-9223372036854775808 ≤ y ∧ y ≤ 9223372036854775807) ∧ Below w.heap.size w w' := by
  obtain ⟨A, hA⟩ : ∃ A, A = w.heap.size := ⟨_, rfl⟩
  obtain ⟨W, hW⟩ : ∃ W, W = w.alloc (.cells #[.slice none 0 0] 26) := ⟨_, rfl⟩
  have zW : W.heap.size = A + 1 := by rw [hW, hA]; simp
  have RA0 : W.heap[A]? = some (.cells #[.slice none 0 0] 26 (0, 0)) := by rw [hW, hA]; exact heap_alloc_new w _
  have B0 : Below A w W := by rw [hW, hA]; exact (Below.refl _ w).alloc (Nat.le_refl _) _
  have hY0 : Byts W W.heap.size a n := by rw [zW]; exact ((hY.mono (by omega)).keep fun b o v hb h => by rw [hW]; exact kept_cell ((Below.refl w.heap.size w).alloc (Nat.le_refl _) _) h (by have := World.block_lt_of_cell? w _ h; exact this))
  have hc := l10With_any a n cap hn W hY0
  have HA := Lib.hid hA
  have HW := Lib.hid hW
  clear hA hW hY0
  go_enter Tryz.func6, Tryz.ntmps6
  go_wp2_with fail
  rw [← HW.out, ← HA.out]
  refine hc.mono ?_
  rintro e w1 ⟨ax, T, cx, v, E, r, rfl, hI, hax, hT, ownE, hE, hr, hb1⟩
  have RA1 := row_g RA0 (grown_of_below hb1 none) (by simp)
  have B1 : Below A w w1 := B0.trans (hb1.mono (by omega))
  have hax' : ∀ g o, ax = some ⟨g, o, none⟩ → A + 1 ≤ g := fun g o e => by have := hax g o e; omega
  have hvA : ∀ k, v.ownBlock = some k → A + 1 ≤ k := fun k e => by have := ownBlock_ge5 ownE e; omega
  have ownW := ownE.rebase (base' := w.heap.size) (by have := HA.out; omega)
  have hAx : ∀ g o, ax = some ⟨g, o, none⟩ → g ≠ A := fun g o e => by have := hax' g o e; omega
  clear hc hb1 RA0 B0 hax ownE zW
  have xA := cell_of1' RA1
  have fA := frozen_of_row w1 A 0 _ _ RA1
  have zA := row_lt RA1
  have HIe : Ints (w1.setCell ⟨A, 0, none⟩ (.slice ax T.length cx)) ax T := ints_setA hI hAx
  have owne := own_setO ownW A (fun e => by have := hvA _ e; omega) (.slice ax T.length cx)
  have Be : Below A w (w1.setCell ⟨A, 0, none⟩ (.slice ax T.length cx)) := B1.setCell (by simp) _
  go_wp2_with fail
  refine bodyPost_ret (by rw [results_cell_tmp2w rfl]; go_simp; try rfl) rfl ?_
  exact ⟨ax, T, cx, v, E, r, rfl, HIe, (fun g o e => by have := hax' g o e; have := HA.out; omega), hT, owne, hE, hr, by rw [← HA.out]; exact Be⟩

end Go.Proofs.YtpmfedllbiblbaaGreat

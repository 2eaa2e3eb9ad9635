/-
  An argument [][]int64, opened: its rows are read wherever they lie. By an AI agent.
-/
import Derived.Test.YtfgpenldeckoaaaLst9
import Derived.Test.YtfgpenldeckoaaaOpen
import Derived.Deep.Matrix
namespace Go.Proofs.Ytfgpenldeckoaaa
open Go.ChangeShapes Go.WideShapes Go.RowKit Cv
set_option linter.unusedVariables false
set_option linter.unusedSimpArgs false
set_option maxRecDepth 100000

theorem rr_map (f : Nat → List Int) (l i : Nat) (h : i < l) : rr ((List.range l).map f) i = f i := by simp [rr, List.getD, h]
theorem open_introwsv {H : Type} {enc : TypeId × Value → H} {W : World} {base : Nat} {v : Value} {d : DataW H} {p : List MemPlace} (hv : Value.okWide Try.prog W .any base 46 v) (h : DataW.Trod enc Try.prog W 0 (fun _ => true) true 46 v d p) :
    ∃ (a : Option Addr) (R : List (List Int)) (cap : Nat), v = .slice a R.length cap ∧ R.length ≤ 9223372036854775807 ∧ (∀ i, i < R.length → (rr R i).length ≤ 9223372036854775807) ∧ LstsAt W a R := by
  obtain ⟨a, len, cap, rfl⟩ := okWide_slice Try.underlying46 hv
  obtain ⟨fuel, hf⟩ := h
  have hf' : DataW.trod enc Try.prog W 0 (fun _ => true) true fuel 46 [.slice a len cap] = some (d, p) := by simpa [Value.cells] using hf
  rcases Deep.open_int_rows Try.underlying46 Try.underlying22 Try.underlying2 (by kernel_rfl) (by kernel_rfl) hf' with ⟨hcs, _⟩ | ⟨ad, l, c, A, L, C, Z, hcs, _, hl, hm, _, hr⟩
  · simp only [List.cons.injEq, Value.slice.injEq, and_true] at hcs
    exact ⟨a, [], cap, by rw [hcs.2.1]; rfl, by simp, fun i hi => by simp at hi, fun i hi => by simp at hi⟩
  · simp only [List.cons.injEq, Value.slice.injEq, and_true] at hcs
    obtain ⟨ha, hlen, hcap⟩ := hcs
    unfold maxLen at hm
    have hR : ((List.range l).map fun r => (Z r).take (L r)).length = l := by simp
    have hrow : ∀ i, i < l → (rr ((List.range l).map fun r => (Z r).take (L r)) i) = (Z i).take (L i) ∧ ((Z i).take (L i)).length = L i := fun i hi => by
      obtain ⟨_, r1, _, r3, _⟩ := hr i (by omega)
      exact ⟨rr_map _ _ _ hi, by rw [List.length_take]; omega⟩
    refine ⟨a, (List.range l).map fun r => (Z r).take (L r), cap, by rw [hR, hlen], by omega, fun i hi => ?_, fun i hi => ?_⟩
    · rw [hR] at hi
      obtain ⟨_, r1, r2, _⟩ := hr i (by omega)
      unfold maxLen at r2
      rw [(hrow i hi).1, (hrow i hi).2]; omega
    · rw [hR] at hi
      obtain ⟨r0, r1, r2, r3, _, r5, r6⟩ := hr i (by omega)
      rw [(hrow i hi).1, (hrow i hi).2]
      obtain ⟨b, off, spot⟩ := ad
      obtain ⟨q0, _⟩ := hr 0 (by omega)
      have hspot : spot = none := by simpa [Addr.add] using World.cell?_spot q0
      subst hspot
      have hadd : (⟨b, off, none⟩ : Addr).add i = ⟨b, off + i, none⟩ := by
        unfold Addr.add
        split
        · simp_all
        · rfl
      rw [hadd] at r0
      refine ⟨b, off, A i, C i, ha, World.block_lt_of_cell? W _ r0, r0, ?_⟩
      by_cases h0 : L i = 0
      · exact .inl (by rw [(hrow i hi).2]; exact h0)
      · cases hA : A i with
        | none => have := r5 hA; omega
        | some a' =>
          obtain ⟨b', o', s'⟩ := a'
          obtain ⟨_, hc⟩ := r6 _ hA
          have hc0 := hc 0 (by omega)
          have hs' : s' = none := by simpa [Addr.add] using World.cell?_spot hc0
          subst hs'
          refine .inr ⟨b', o', rfl, World.block_lt_of_cell? W _ hc0, fun j hj => ?_⟩
          rw [(hrow i hi).2] at hj
          have hcj := hc j (by omega)
          have e : gi ((Z i).take (L i)) j = (Z i).getD j 0 := by rw [gi_take _ _ _ (by omega)]; rfl
          rw [e, ← hcj]
          congr 1
          unfold Addr.add
          split
          · simp_all
          · rfl

end Go.Proofs.Ytfgpenldeckoaaa

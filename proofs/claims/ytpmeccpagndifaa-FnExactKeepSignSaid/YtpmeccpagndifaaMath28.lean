/-
  Plain facts on the sign that is kept. By an AI agent.
-/
import Derived.Test.YtpmeccpagndifaaMath27
namespace Go.Proofs.Ytpmeccpagndifaa
set_option linter.unusedVariables false
set_option linter.unusedSimpArgs false
namespace Cv

theorem ks_plc {S C : List Int} {i : Int} (h : ePlc S C i = 0) (k : Nat) (d : Int) : ePlc S (keepL S C k d) i = 0 := by
  obtain ⟨h1, h2⟩ := ePlc_zero h
  unfold ePlc; rw [if_pos (keep_code h1 k d), if_pos h2]
theorem ks_e {S C : List Int} {i d : Int} (h : ePlc S C i = 0) (hd : 0 ≤ d ∧ d < gi S i.toNat) : eTk S (keepL S C i.toNat d) i = eKs S C i d := by
  unfold eTk eKs; rw [if_pos (ks_plc h _ _), if_pos h, if_pos hd]
theorem ks_s {S C : List Int} {i d : Int} (h : ePlc S C i = 0) (hd : 0 ≤ d ∧ d < gi S i.toNat) : vTkS S (keepL S C i.toNat d) i = vKsS S C i d := by
  unfold vTkS vKsS; rw [ks_e h hd]
theorem ks_c {S C : List Int} {i d : Int} (h : ePlc S C i = 0) (hd : 0 ≤ d ∧ d < gi S i.toNat) : vTkC S (keepL S C i.toNat d) i = vKsC S C i d := by
  unfold vTkC vKsC; rw [ks_e h hd, out_keep S C i.toNat d hd.1]
theorem keepL_len (S C : List Int) (k : Nat) (d : Int) : (keepL S C k d).length ≤ C.length := List.length_filter_le _ _
end Cv
end Go.Proofs.Ytpmeccpagndifaa

/-
  The contracts of slices.Grow (of nothing, off the shelf) and slices.Concat on numbers. By an AI agent.
-/
import Derived.Test.YtcbkmmadejbbpaaPut
import Derived.Test.YtcbkmmadejbbpaaDel
import Derived.Shelf.Spec.SlicesGrow
import Derived.Shelf.SlGeneric
import Derived.Ground.Names8Prog
namespace Go.Proofs
shelf_lay_g Lays8.n4 Nm8 4 at Try 99 as Try.lgrow
end Go.Proofs
namespace Go.Proofs.Ytcbkmmadejbbpaa
open Go.RowKit Cv
set_option linter.unusedVariables false
set_option linter.unusedSimpArgs false
set_option maxRecDepth 100000

/-- lists one behind the other, the first k -/
def catTo (L : Nat → List Int) : Nat → List Int
  | 0 => []
  | k + 1 => catTo L k ++ L k
theorem catTo_bd (L : Nat → List Int) (n : Nat) (h : ∀ k, k < n → (L k).length ≤ 65536) (k : Nat) (hk : k ≤ n) : (catTo L k).length ≤ k * 65536 := by
  induction k with
  | zero => simp [catTo]
  | succ k ih => rw [catTo, List.length_append]; have := ih (by omega); have := h k (by omega); omega
theorem catTo_mono (L : Nat → List Int) {k n : Nat} (hk : k ≤ n) : (catTo L k).length ≤ (catTo L n).length := by
  induction n with
  | zero => have : k = 0 := by omega
            subst this; exact Nat.le_refl _
  | succ n ih =>
    by_cases e : k = n + 1
    · subst e; exact Nat.le_refl _
    · have := ih (by omega); rw [catTo, List.length_append]; omega

theorem growNil_any (n : Nat) (hn0 : 0 < n) (hn : n ≤ 16777216) (w : World) :
    Calls Try.prog 99 #[.slice none 0 0, .int .i64 n] w fun e w' => ∃ c, e = .returned (.slice (some ⟨w.heap.size, 0, none⟩) 0 c) ∧ OwnInts w' w.heap.size (.slice (some ⟨w.heap.size, 0, none⟩) 0 c) [] ∧ Below w.heap.size w w' := by
  obtain ⟨i0, hi, hz0, hz1, hz2⟩ := info_parts infoI64
  have h : Calls Try.prog 99 #[.slice none 0 0, .int .i64 n] w fun e w' => e = .returned (.slice (some ⟨w.heap.size, 0, none⟩) 0 (grownCap w (0 + n) 0 2)) ∧
      w' = w.drew.alloc (.cells (([] : List Value).toArray ++ Builtin.zeroCells (Value.int .i64 0).cells (0 + n - 0) ++ Builtin.zeroCells (Value.int .i64 0).cells (grownCap w (0 + n) 0 2 - (0 + n))) 2) :=
    Any8.slices_Grow_grow Try.lgrow i0 (.int .i64 0) hi hz0 (by rw [hz1]; decide) none 0 0 n [] w (Nat.le_refl _) (by omega) (by rw [hz2]; omega) (by omega) (by simp) (fun _ => rfl) (fun a ha => by simp at ha)
  rw [Nat.zero_add] at h
  refine h.mono ?_
  rintro e w' ⟨rfl, rfl⟩
  refine ⟨_, rfl, ?_, (Below.refl _ _).drew.alloc (Nat.le_refl _) _⟩
  have g1 := grownCap_ge w n 0 2
  have g2 := grownCap_le_maxLen w n 0 2 (by unfold maxLen; omega)
  refine ⟨by simp, .inr ⟨w.heap.size, _, _, rfl, Nat.le_refl _, heap_alloc_last w.drew _, Nat.zero_le _, g2, ?_, by simp⟩⟩
  simp [Builtin.zeroCells, Value.cells]
  omega
theorem own_stays {w : World} {base m : Nat} {v v' : Value} {L : List Int} (h : OwnInts w base v' L) (hnil : v' = .slice none 0 0 ↔ v = .slice none 0 0 ∧ m = 0) (hv : v ≠ .slice none 0 0) : ∃ g c, v' = .slice (some ⟨g, 0, none⟩) L.length c := by
  rcases h.2 with ⟨h1, _⟩ | ⟨g, c, cur, h1, _⟩
  · exact absurd (hnil.1 h1).1 hv
  · exact ⟨g, c, h1⟩

set_option maxHeartbeats 1000000 in
theorem concat_n (b n : Nat) (hn8 : n ≤ 8) (A : Nat → Addr) (L : Nat → List Int) (K : Nat → Nat) (w : World) (hb : b < w.heap.size)
    (hc : ∀ k, k < n → w.cell? ⟨b, k, none⟩ = some (.slice (some (A k)) (L k).length (K k))) (hL : ∀ k, k < n → Ints w (some (A k)) (L k) ∧ (L k).length ≤ 65536) (hpos : 0 < (catTo L n).length) :
    Calls Try.prog 52 #[.slice (some ⟨b, 0, none⟩) n n] w fun e w' => ∃ g c, e = .returned (.slice (some ⟨g, 0, none⟩) (catTo L n).length c) ∧ OwnInts w' w.heap.size (.slice (some ⟨g, 0, none⟩) (catTo L n).length c) (catTo L n) ∧ Below w.heap.size w w' := by
  have HL := Lib.hid hL
  have HC := Lib.hid hc
  have HB := Lib.hid (catTo_bd L n fun k hk => (hL k hk).2)
  have hbd := HB.out n (Nat.le_refl _)
  clear hL hc
  go_enter Try.func52, Try.ntmps52
  go_wp2_with fail
  go_loopw [3, 11] (fun sz i wr => ∃ k : Nat, k ≤ n ∧ i = .int .i64 k ∧ sz = .int .i64 (catTo L k).length ∧ wr = w) (fun _ i _ => n - (intOf i).toNat)
  case atStart => exact ⟨0, Nat.zero_le _, rfl, rfl, rfl⟩
  case round =>
    obtain ⟨k, hk, rfl, rfl, rfl⟩ := hrel
    by_cases hlt : k < n
    · have hck := HC.out k hlt
      have hq := catTo_mono L (k := k + 1) (n := n) (by omega)
      have hqe : (catTo L (k + 1)).length = (catTo L k).length + (L k).length := by rw [catTo, List.length_append]
      obtain ⟨Q, hQ⟩ : ∃ Q, Q = (catTo L (k + 1)).length := ⟨_, rfl⟩
      obtain ⟨P, hP⟩ : ∃ P, P = (catTo L k).length := ⟨_, rfl⟩
      obtain ⟨m, hm⟩ : ∃ m, m = (L k).length := ⟨_, rfl⟩
      obtain ⟨a, ha⟩ : ∃ a, a = A k := ⟨_, rfl⟩
      obtain ⟨q, hq2⟩ : ∃ q, q = K k := ⟨_, rfl⟩
      rw [← ha, ← hm, ← hq2] at hck
      rw [← hQ, ← hP, ← hm] at hqe
      rw [← hQ] at hq
      rw [← hP]
      have HQ := Lib.hid hQ
      have E1 : IntKind.i64.wrap ((P : Int) + (m : Int)) = (Q : Int) := by rw [IntWalk.i64_in _ ⟨by omega, by omega⟩]; omega
      have d1 : decide ((Q : Int) < 0) = false := by simp
      clear hQ hP hm ha hq2 hqe hq
      go_wp2_with fail
      go_roundw
      case rel => exact ⟨k + 1, by omega, by go_num, by rw [HQ.out], by first | rfl | trivial⟩
      case measure => simp [intOf]; omega
    · have ek : k = n := by omega
      subst ek
      obtain ⟨T, hT⟩ : ∃ T, T = (catTo L k).length := ⟨_, rfl⟩
      rw [← hT] at hpos hbd ⊢
      have HT := Lib.hid hT
      clear hT
      obtain ⟨W0, rfl⟩ : ∃ W0, W0 = wr := ⟨_, rfl⟩
      go_wp2_with fail
      refine (growNil_any T hpos (by omega) _).mono ?_
      rintro e w1 ⟨c0, rfl, own, hb1⟩
      go_wp2_with fail
      go_loopw [6, 27] (fun vs i wq => ∃ (j g c : Nat), j ≤ k ∧ i = .int .i64 j ∧ vs = .slice (some ⟨g, 0, none⟩) (catTo L j).length c ∧ OwnInts wq W0.heap.size (.slice (some ⟨g, 0, none⟩) (catTo L j).length c) (catTo L j) ∧ Below W0.heap.size W0 wq) (fun _ i _ => k - (intOf i).toNat)
      case atStart => exact ⟨0, W0.heap.size, c0, Nat.zero_le _, rfl, rfl, own, hb1⟩
      case round =>
        clear own hb1
        obtain ⟨j, g, c, hj, rfl, rfl, own, B⟩ := hrel
        by_cases hlt2 : j < k
        · have hck := kept_cell B (HC.out j hlt2) hb
          obtain ⟨hI, hlI⟩ := HL.out j hlt2
          replace hI := hI.below B
          have hq := catTo_mono L (k := j + 1) (n := k) (by omega)
          have hqe : (catTo L (j + 1)).length = (catTo L j).length + (L j).length := by rw [catTo, List.length_append]
          rw [← HT.out] at hq
          obtain ⟨P, hP⟩ : ∃ P, P = (catTo L j).length := ⟨_, rfl⟩
          obtain ⟨m, hm⟩ : ∃ m, m = (L j).length := ⟨_, rfl⟩
          obtain ⟨a, ha⟩ : ∃ a, a = A j := ⟨_, rfl⟩
          obtain ⟨q, hq2⟩ : ∃ q, q = K j := ⟨_, rfl⟩
          rw [← ha, ← hm, ← hq2] at hck
          rw [← ha] at hI
          rw [← hP, ← hm] at hqe
          rw [← hP] at own ⊢
          have HP := Lib.hid hP
          have HM := Lib.hid hm
          have hs := B.size
          have e1 : Hid (catTo L j ++ L j = catTo L (j + 1)) := Lib.hid rfl
          have hlen : (catTo L j).length + m ≤ 1073741824 := by rw [← hP]; omega
          clear hP hm ha hq2 hqe
          go_wp2_with (at_builtin; refine wpList_append_ints rfl _ _ rfl W0.heap.size _ _ rfl own a (L j) m q HM.out rfl hI hlen hs ?_; intro v' w4 hown' hgrow hnil; have hb4 := grown_below B hs hgrow own (Nat.le_refl _); rw [e1.out] at hown'; obtain ⟨g2, c2, hv⟩ := own_stays hown' hnil (fun h => absurd (Value.slice.inj h).1 (by simp)); obtain ⟨P2, hP2⟩ : ∃ P, P = (catTo L (j + 1)).length := ⟨_, rfl⟩; rw [← hP2] at hv; subst hv; replace hP2 := Lib.hid hP2)
          go_roundw
          case rel => exact ⟨j + 1, g2, c2, by omega, by go_num, by rw [hP2.out], by rw [← hP2.out]; exact hown', hb4⟩
          case measure => simp [intOf]; omega
        · have ej : j = k := by omega
          subst ej
          rw [← HT.out] at own ⊢
          go_wp2_with fail
          go_ret
          exact ⟨g, c, by rw [← HT.out]; rfl, by rw [← HT.out]; exact own, B⟩

end Go.Proofs.Ytcbkmmadejbbpaa

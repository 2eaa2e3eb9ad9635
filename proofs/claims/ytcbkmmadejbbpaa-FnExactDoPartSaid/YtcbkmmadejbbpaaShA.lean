/-
  The contracts of ShiftCode. By an AI agent.
-/
import Derived.Test.YtcbkmmadejbbpaaSort
import Derived.Test.YtcbkmmadejbbpaaDel
import Derived.Test.YtcbkmmadejbbpaaPut
import Derived.Test.YtcbkmmadejbbpaaErr
import Derived.Test.YtcbkmmadejbbpaaSums
import Derived.Test.YtcbkmmadejbbpaaSums2
namespace Go.Proofs.Ytcbkmmadejbbpaa
open Go.RowKit Cv
set_option linter.unusedVariables false
set_option linter.unusedSimpArgs false
set_option maxRecDepth 100000

theorem shifted_any (ao : Option Addr) (S : List Int) (cap : Nat) (hSp : Sp S) (ac : Addr) (C : List Int) (capc : Nat) (hl : C.length ≤ 1024) (hC : ∀ i, i < C.length → 0 ≤ gi C i ∧ gi C i ≤ 9223372036854775807) (x : Int) (hx : 0 ≤ x ∧ x ≤ 9223372036854775807) (w : World) (hS : Ints w ao S) (hCI : Ints w (some ac) C) :
    Calls Try.prog 109 #[.agg #[.slice ao S.length cap], .slice (some ac) C.length capc, .int .i64 x] w fun e w' => ∃ v, e = .returned v ∧ OwnInts w' w.heap.size v (putTo [] (fun i => sumW S (gi C i) x) C.length) ∧ Below w.heap.size w w' := by
  go_enter Try.func109, Try.ntmps109
  go_wp2_with fail
  have HC := Lib.hid hC
  have B0 : Below w.heap.size w (w.alloc (.cells #[.slice ao S.length cap] 26)) := by go_grown
  clear hC
  go_loopw [7, 12] (fun vo i wr => ∃ (k g' c' : Nat), k ≤ C.length ∧ i = .int .i64 k ∧ vo = .slice (some ⟨g', 0, none⟩) (putTo [] (fun i => sumW S (gi C i) x) k).length c' ∧ OwnInts wr (w.heap.size + 1) (.slice (some ⟨g', 0, none⟩) (putTo [] (fun i => sumW S (gi C i) x) k).length c') (putTo [] (fun i => sumW S (gi C i) x) k) ∧ wr.cell? ⟨w.heap.size, 0, none⟩ = some (.slice ao S.length cap) ∧ w.heap.size < wr.heap.size ∧ Below w.heap.size w wr) (fun _ i _ => C.length - (intOf i).toNat)
  case atStart => exact ⟨0, w.heap.size + 1, 0, Nat.zero_le _, rfl, rfl, own_empty _ _ (by simp) (by simp), kept_cell ((Below.refl _ (w.alloc (.cells #[.slice ao S.length cap] 26))).alloc (Nat.le_refl _) _) (cell_new _ _ _) (lt_alloc _ _), by simp; omega, by go_grown⟩
  case round =>
    obtain ⟨k, g1, c1, hk, rfl, rfl, own, c, l, B⟩ := hrel
    have hpl := putTo_len [] (fun i => sumW S (gi C i) x) k
    simp only [List.length_nil, Nat.zero_add] at hpl
    by_cases hlt : k < C.length
    · obtain ⟨b, o, he, hbl, hc⟩ := hCI.at hlt
      obtain rfl : ac = ⟨b, o, none⟩ := by simpa using he
      have hck := kept_cell B (hc k hlt) hbl
      obtain ⟨u1, u2⟩ := HC.out k hlt
      have hs := B.size
      clear hc he
      obtain ⟨P, hP⟩ : ∃ P, P = (putTo [] (fun i => sumW S (gi C i) x) k).length := ⟨_, rfl⟩
      rw [← hP] at own ⊢
      have HP := Lib.hid hP
      have hP2 : P ≤ 1024 := by omega
      clear hP
      go_wp2_with fail
      go_region_held3 (fun w' => w'.cell? ⟨w.heap.size, 0, none⟩ = some (.slice ao S.length cap) ∧ w'.cell? ⟨b, o + k, none⟩ = some (.int .i64 (gi C k))) (first | exact ⟨c, hck⟩ | exact ⟨k2, m2⟩ | exact ⟨k3, m3⟩) (first | (go_at_call 133; refine (l01Sum_any ao S cap hSp (gi C k) x u1 u2 hx.1 hx.2 _ (hS.below B.drew)).mono ?_; rintro e w2 ⟨rfl, hb2'⟩; have hb2 : Below wr.heap.size wr w2 := (Below.refl _ wr).drew.trans hb2'; have k2 := kept_cell hb2 c l; have l2 := lt_of_below hb2 l; have m2 := kept_cell hb2 hck (Nat.lt_of_lt_of_le hbl hs); have n2 : b < w2.heap.size := Nat.lt_of_lt_of_le hbl (Nat.le_trans hs hb2.size); have own1 := own.below hb2; have B2 := B.trans (hb2.mono hs); have hp := l01Put_any (w.heap.size + 1) g1 c1 (putTo [] (fun i => sumW S (gi C i) x) k) (sumW S (gi C k) x) w2 (by rw [← HP.out]; omega) (by rw [← HP.out]; exact own1); rw [← HP.out] at hp) | (go_at_call 79; refine hp.mono ?_; rintro e w3 ⟨g2, c2, rfl, own2, hb3⟩; have k3 := kept_cell hb3 k2 l2; have l3 := lt_of_below hb3 l2; have m3 := kept_cell hb3 m2 n2; have B3 := B2.trans (hb3.mono B2.size)))
      have e1 : Hid (putL (putTo [] (fun i => sumW S (gi C i) x) k) (sumW S (gi C k) x) = putTo [] (fun i => sumW S (gi C i) x) (k + 1)) := Lib.hid rfl
      rw [e1.out] at own2 ⊢
      clear own hp hck m2 m3 k2
      obtain ⟨P2, hP2⟩ : ∃ P, P = (putTo [] (fun i => sumW S (gi C i) x) (k + 1)).length := ⟨_, rfl⟩
      rw [← hP2] at own2 ⊢
      go_wp2_with fail
      go_roundw
      case rel => exact ⟨k + 1, g2, c2, by omega, by go_num, by rw [← hP2], by rw [← hP2]; exact own2, k3, l3, B3⟩
      case measure => simp [intOf]; omega
    · have ek : Hid (k = C.length) := Lib.hid (by omega)
      obtain ⟨P, hP⟩ : ∃ P, P = (putTo [] (fun i => sumW S (gi C i) x) k).length := ⟨_, rfl⟩
      rw [← hP] at own ⊢
      go_wp2_with fail
      go_ret
      exact ⟨_, rfl, by rw [← ek.out]; exact own.rebase (by omega), B⟩


end Go.Proofs.Ytcbkmmadejbbpaa

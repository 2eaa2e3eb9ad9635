/-
  The program's sum of columns, each multiplied by its digit. By an AI agent.
-/
import Derived.Test.YtcnnijeokefboabPkCfi
import Derived.StillTailTactics
import Derived.Handy
namespace Go.Proofs.Ytcnnijeokefboab
open Go.RowKit Cv
set_option linter.unusedVariables false
set_option linter.unusedSimpArgs false
set_option maxRecDepth 100000

/-- part j of the sum of the first columns -/
def smR (q : Int) (Ws D : List Int) (j : Nat) : Nat → Int
  | 0 => 0
  | i + 1 => (smR q Ws D j i + gi D i * gi (c3 q (gi Ws i)) j) % q
theorem smR_bd {q : Int} (hq : 2 ≤ q) (Ws D : List Int) (j i : Nat) : 0 ≤ smR q Ws D j i ∧ smR q Ws D j i < q := by
  cases i with
  | zero => simp [smR]; omega
  | succ i => exact ⟨Int.emod_nonneg _ (by omega), Int.emod_lt_of_pos _ (by omega)⟩
theorem c3_bd {q : Int} (hq : q = 2 ∨ q = 3) (x : Int) (j : Nat) (hj : j < 3) : 0 ≤ gi (c3 q x) j ∧ gi (c3 q x) j < q := by
  have h := dig_bd [q, q, q] x (sp3 hq).bd j hj
  have e : gi (c3 q x) j = dig [q, q, q] x j := gi_digs _ _ _ hj
  rw [e]
  match j, hj with
  | 0, _ => exact h
  | 1, _ => exact h
  | 2, _ => exact h
theorem flat3_get' (q : Int) (Ws : List Int) (k j : Nat) (hk : k < Ws.length) (hj : j < 3) : (flat3 q Ws)[k * 3 + j]? = some (.int .i64 (gi (c3 q (gi Ws k)) j)) := by
  induction Ws generalizing k with
  | nil => simp at hk
  | cons x Ws ih =>
    have e : flat3 q (x :: Ws) = (c3 q x).map (Value.int .i64) ++ flat3 q Ws := rfl
    rw [e]
    cases k with
    | zero =>
      rw [List.getElem?_append_left (by rw [List.length_map, c3_len]; omega), Nat.zero_mul, Nat.zero_add]
      exact gi_map _ j (by rw [c3_len]; exact hj)
    | succ k =>
      rw [List.getElem?_append_right (by rw [List.length_map, c3_len]; omega), List.length_map, c3_len, show (k + 1) * 3 + j - 3 = k * 3 + j by omega]
      have := ih k (by simpa using hk)
      rw [this]; rfl

theorem row3_set0 {w : World} {g : Nat} {t : TypeId} {x0 x1 x2 : Value} (u : Value) (h : w.heap[g]? = some (.cells #[x0, x1, x2] t (0, 0))) : (w.setCell ⟨g, 0, none⟩ u).drew.heap[g]? = some (.cells #[u, x1, x2] t (0, 0)) := by
  show (w.setCell ⟨g, 0, none⟩ u).heap[g]? = _
  rw [setCell_eq_setRow w g 0 _ _ _ u h]
  exact setRow_heap w g _ _ _ _ h
theorem row3_set1 {w : World} {g : Nat} {t : TypeId} {x0 x1 x2 : Value} (u : Value) (h : w.heap[g]? = some (.cells #[x0, x1, x2] t (0, 0))) : (w.setCell ⟨g, 1, none⟩ u).drew.heap[g]? = some (.cells #[x0, u, x2] t (0, 0)) := by
  show (w.setCell ⟨g, 1, none⟩ u).heap[g]? = _
  rw [setCell_eq_setRow w g 1 _ _ _ u h]
  exact setRow_heap w g _ _ _ _ h
theorem row3_set2 {w : World} {g : Nat} {t : TypeId} {x0 x1 x2 : Value} (u : Value) (h : w.heap[g]? = some (.cells #[x0, x1, x2] t (0, 0))) : (w.setCell ⟨g, 2, none⟩ u).drew.heap[g]? = some (.cells #[x0, x1, u] t (0, 0)) := by
  show (w.setCell ⟨g, 2, none⟩ u).heap[g]? = _
  rw [setCell_eq_setRow w g 2 _ _ _ u h]
  exact setRow_heap w g _ _ _ _ h
theorem idx3_0 (y0 y1 y2 : Int) (w : World) : Sem.run Try.prog (Instr.index 67 (.agg #[.int .i64 y0, .int .i64 y1, .int .i64 y2]) (.int .i64 0)) w = .ok (.int .i64 y0) w := by kernel_rfl
theorem idx3_1 (y0 y1 y2 : Int) (w : World) : Sem.run Try.prog (Instr.index 67 (.agg #[.int .i64 y0, .int .i64 y1, .int .i64 y2]) (.int .i64 1)) w = .ok (.int .i64 y1) w := by kernel_rfl
theorem idx3_2 (y0 y1 y2 : Int) (w : World) : Sem.run Try.prog (Instr.index 67 (.agg #[.int .i64 y0, .int .i64 y1, .int .i64 y2]) (.int .i64 2)) w = .ok (.int .i64 y2) w := by kernel_rfl

set_option maxHeartbeats 2000000 in
theorem sumOfColumns_any (q : Int) (hq : q = 2 ∨ q = 3) (gc cc : Nat) (Ws : List Int) (hw8 : Ws.length ≤ 8) (ad : Option Addr) (D : List Int) (n cd : Nat) (hn : n = D.length) (hD : D.length = Ws.length) (hDb : ∀ i, i < D.length → 0 ≤ gi D i ∧ gi D i < q) (w : World) (hg : gc < w.heap.size)
    (hcell : ∀ k j, k < Ws.length → j < 3 → w.cell? ⟨gc, k * 3 + j, none⟩ = some (.int .i64 (gi (c3 q (gi Ws k)) j))) (hDI : Ints w ad D) :
    Calls Try.prog 44 #[.int .i64 q, .slice (some ⟨gc, 0, none⟩) Ws.length cc, .slice ad n cd] w fun e w' => e = .returned (.agg #[.int .i64 (smR q Ws D 0 Ws.length), .int .i64 (smR q Ws D 1 Ws.length), .int .i64 (smR q Ws D 2 Ws.length)]) ∧ Below w.heap.size w w' := by
  have HQ := Lib.hid hq
  have hq2 : 2 ≤ q := by omega
  have hq3 : q ≤ 3 := by omega
  have hz : ¬ q = 0 := by omega
  have hz2 : (q == 0) = false := by simp; omega
  have HC := Lib.hid hcell
  have HD := Lib.hid hD
  have HDb := Lib.hid hDb
  have HN := Lib.hid hn
  clear hq hcell hD hDb hn
  obtain ⟨RB, hRB⟩ : ∃ RB, RB = w.heap.size := ⟨_, rfl⟩
  obtain ⟨SB, hSB⟩ : ∃ SB, SB = w.heap.size + 1 := ⟨_, rfl⟩
  obtain ⟨W, hW⟩ : ∃ W, W = (w.alloc (.cells #[.int .i64 0, .int .i64 0, .int .i64 0] 67)).alloc (.cells #[.int .i64 0, .int .i64 0, .int .i64 0] 67) := ⟨_, rfl⟩
  have hrow : W.heap[SB]? = some (.cells #[.int .i64 0, .int .i64 0, .int .i64 0] 67 (0, 0)) := by
    have e : SB = (w.alloc (.cells #[.int .i64 0, .int .i64 0, .int .i64 0] 67)).heap.size := by rw [hSB]; simp
    rw [hW, e]; exact heap_alloc_new _ _
  have hres : W.heap[RB]? = some (.cells #[.int .i64 0, .int .i64 0, .int .i64 0] 67 (0, 0)) := by
    have hb : Below (w.heap.size + 1) (w.alloc (.cells #[.int .i64 0, .int .i64 0, .int .i64 0] 67)) W := by
      rw [hW]; exact (Below.refl _ _).alloc (by simp) _
    rw [hb.block RB (by omega), hRB]; exact heap_alloc_new _ _
  have B0 : Below w.heap.size w W := by rw [hW]; go_grown
  have hWs : SB < W.heap.size := (Array.getElem?_eq_some_iff.1 hrow).1
  have HW := Lib.hid hW
  have HS0 : Hid (∀ j, smR q Ws D j 0 = 0) := Lib.hid fun j => rfl
  clear hW
  obtain ⟨RB, hRB⟩ : ∃ RB, RB = w.heap.size := ⟨_, rfl⟩
  obtain ⟨SB, hSB⟩ : ∃ SB, SB = w.heap.size + 1 := ⟨_, rfl⟩
  obtain ⟨W, hW⟩ : ∃ W, W = (w.alloc (.cells #[.int .i64 0, .int .i64 0, .int .i64 0] 67)).alloc (.cells #[.int .i64 0, .int .i64 0, .int .i64 0] 67) := ⟨_, rfl⟩
  have hrow : W.heap[SB]? = some (.cells #[.int .i64 0, .int .i64 0, .int .i64 0] 67 (0, 0)) := by
    have e : SB = (w.alloc (.cells #[.int .i64 0, .int .i64 0, .int .i64 0] 67)).heap.size := by rw [hSB]; simp
    rw [hW, e]; exact heap_alloc_new _ _
  have hres : W.heap[RB]? = some (.cells #[.int .i64 0, .int .i64 0, .int .i64 0] 67 (0, 0)) := by
    have hb : Below (w.heap.size + 1) (w.alloc (.cells #[.int .i64 0, .int .i64 0, .int .i64 0] 67)) W := by
      rw [hW]; exact (Below.refl _ _).alloc (by simp) _
    rw [hb.block RB (by omega), hRB]; exact heap_alloc_new _ _
  have B0 : Below w.heap.size w W := by rw [hW]; go_grown
  have hWs : SB < W.heap.size := (Array.getElem?_eq_some_iff.1 hrow).1
  have HW := Lib.hid hW
  have HS0 : Hid (∀ j, smR q Ws D j 0 = 0) := Lib.hid fun j => rfl
  clear hW
  obtain ⟨RB, hRB⟩ : ∃ RB, RB = w.heap.size := ⟨_, rfl⟩
  obtain ⟨SB, hSB⟩ : ∃ SB, SB = w.heap.size + 1 := ⟨_, rfl⟩
  obtain ⟨W, hW⟩ : ∃ W, W = (w.alloc (.cells #[.int .i64 0, .int .i64 0, .int .i64 0] 67)).alloc (.cells #[.int .i64 0, .int .i64 0, .int .i64 0] 67) := ⟨_, rfl⟩
  have hrow : W.heap[SB]? = some (.cells #[.int .i64 0, .int .i64 0, .int .i64 0] 67 (0, 0)) := by
    have e : SB = (w.alloc (.cells #[.int .i64 0, .int .i64 0, .int .i64 0] 67)).heap.size := by rw [hSB]; simp
    rw [hW, e]; exact heap_alloc_new _ _
  have hres : W.heap[RB]? = some (.cells #[.int .i64 0, .int .i64 0, .int .i64 0] 67 (0, 0)) := by
    have hb : Below (w.heap.size + 1) (w.alloc (.cells #[.int .i64 0, .int .i64 0, .int .i64 0] 67)) W := by
      rw [hW]; exact (Below.refl _ _).alloc (by simp) _
    rw [hb.block RB (by omega), hRB]; exact heap_alloc_new _ _
  have B0 : Below w.heap.size w W := by rw [hW]; go_grown
  have hWs : SB < W.heap.size := (Array.getElem?_eq_some_iff.1 hrow).1
  have HW := Lib.hid hW
  have HS0 : Hid (∀ j, smR q Ws D j 0 = 0) := Lib.hid fun j => rfl
  clear hW
  obtain ⟨RB, hRB⟩ : ∃ RB, RB = w.heap.size := ⟨_, rfl⟩
  obtain ⟨SB, hSB⟩ : ∃ SB, SB = w.heap.size + 1 := ⟨_, rfl⟩
  obtain ⟨W, hW⟩ : ∃ W, W = (w.alloc (.cells #[.int .i64 0, .int .i64 0, .int .i64 0] 67)).alloc (.cells #[.int .i64 0, .int .i64 0, .int .i64 0] 67) := ⟨_, rfl⟩
  have hrow : W.heap[SB]? = some (.cells #[.int .i64 0, .int .i64 0, .int .i64 0] 67 (0, 0)) := by
    have e : SB = (w.alloc (.cells #[.int .i64 0, .int .i64 0, .int .i64 0] 67)).heap.size := by rw [hSB]; simp
    rw [hW, e]; exact heap_alloc_new _ _
  have hres : W.heap[RB]? = some (.cells #[.int .i64 0, .int .i64 0, .int .i64 0] 67 (0, 0)) := by
    have hb : Below (w.heap.size + 1) (w.alloc (.cells #[.int .i64 0, .int .i64 0, .int .i64 0] 67)) W := by
      rw [hW]; exact (Below.refl _ _).alloc (by simp) _
    rw [hb.block RB (by omega), hRB]; exact heap_alloc_new _ _
  have B0 : Below w.heap.size w W := by rw [hW]; go_grown
  have hWs : SB < W.heap.size := (Array.getElem?_eq_some_iff.1 hrow).1
  have HW := Lib.hid hW
  have HS0 : Hid (∀ j, smR q Ws D j 0 = 0) := Lib.hid fun j => rfl
  clear hW
  obtain ⟨RB, hRB⟩ : ∃ RB, RB = w.heap.size := ⟨_, rfl⟩
  obtain ⟨SB, hSB⟩ : ∃ SB, SB = w.heap.size + 1 := ⟨_, rfl⟩
  obtain ⟨W, hW⟩ : ∃ W, W = (w.alloc (.cells #[.int .i64 0, .int .i64 0, .int .i64 0] 67)).alloc (.cells #[.int .i64 0, .int .i64 0, .int .i64 0] 67) := ⟨_, rfl⟩
  have hrow : W.heap[SB]? = some (.cells #[.int .i64 0, .int .i64 0, .int .i64 0] 67 (0, 0)) := by
    have e : SB = (w.alloc (.cells #[.int .i64 0, .int .i64 0, .int .i64 0] 67)).heap.size := by rw [hSB]; simp
    rw [hW, e]; exact heap_alloc_new _ _
  have hres : W.heap[RB]? = some (.cells #[.int .i64 0, .int .i64 0, .int .i64 0] 67 (0, 0)) := by
    have hb : Below (w.heap.size + 1) (w.alloc (.cells #[.int .i64 0, .int .i64 0, .int .i64 0] 67)) W := by
      rw [hW]; exact (Below.refl _ _).alloc (by simp) _
    rw [hb.block RB (by omega), hRB]; exact heap_alloc_new _ _
  have B0 : Below w.heap.size w W := by rw [hW]; go_grown
  have hWs : SB < W.heap.size := (Array.getElem?_eq_some_iff.1 hrow).1
  have HW := Lib.hid hW
  have HS0 : Hid (∀ j, smR q Ws D j 0 = 0) := Lib.hid fun j => rfl
  clear hW
  obtain ⟨RB, hRB⟩ : ∃ RB, RB = w.heap.size := ⟨_, rfl⟩
  obtain ⟨SB, hSB⟩ : ∃ SB, SB = w.heap.size + 1 := ⟨_, rfl⟩
  obtain ⟨W, hW⟩ : ∃ W, W = (w.alloc (.cells #[.int .i64 0, .int .i64 0, .int .i64 0] 67)).alloc (.cells #[.int .i64 0, .int .i64 0, .int .i64 0] 67) := ⟨_, rfl⟩
  have hrow : W.heap[SB]? = some (.cells #[.int .i64 0, .int .i64 0, .int .i64 0] 67 (0, 0)) := by
    have e : SB = (w.alloc (.cells #[.int .i64 0, .int .i64 0, .int .i64 0] 67)).heap.size := by rw [hSB]; simp
    rw [hW, e]; exact heap_alloc_new _ _
  have hres : W.heap[RB]? = some (.cells #[.int .i64 0, .int .i64 0, .int .i64 0] 67 (0, 0)) := by
    have hb : Below (w.heap.size + 1) (w.alloc (.cells #[.int .i64 0, .int .i64 0, .int .i64 0] 67)) W := by
      rw [hW]; exact (Below.refl _ _).alloc (by simp) _
    rw [hb.block RB (by omega), hRB]; exact heap_alloc_new _ _
  have B0 : Below w.heap.size w W := by rw [hW]; go_grown
  have hWs : SB < W.heap.size := (Array.getElem?_eq_some_iff.1 hrow).1
  have HW := Lib.hid hW
  have HS0 : Hid (∀ j, smR q Ws D j 0 = 0) := Lib.hid fun j => rfl
  clear hW
  obtain ⟨RB, hRB⟩ : ∃ RB, RB = w.heap.size := ⟨_, rfl⟩
  obtain ⟨SB, hSB⟩ : ∃ SB, SB = w.heap.size + 1 := ⟨_, rfl⟩
  obtain ⟨W, hW⟩ : ∃ W, W = (w.alloc (.cells #[.int .i64 0, .int .i64 0, .int .i64 0] 67)).alloc (.cells #[.int .i64 0, .int .i64 0, .int .i64 0] 67) := ⟨_, rfl⟩
  have hrow : W.heap[SB]? = some (.cells #[.int .i64 0, .int .i64 0, .int .i64 0] 67 (0, 0)) := by
    have e : SB = (w.alloc (.cells #[.int .i64 0, .int .i64 0, .int .i64 0] 67)).heap.size := by rw [hSB]; simp
    rw [hW, e]; exact heap_alloc_new _ _
  have hres : W.heap[RB]? = some (.cells #[.int .i64 0, .int .i64 0, .int .i64 0] 67 (0, 0)) := by
    have hb : Below (w.heap.size + 1) (w.alloc (.cells #[.int .i64 0, .int .i64 0, .int .i64 0] 67)) W := by
      rw [hW]; exact (Below.refl _ _).alloc (by simp) _
    rw [hb.block RB (by omega), hRB]; exact heap_alloc_new _ _
  have B0 : Below w.heap.size w W := by rw [hW]; go_grown
  have hWs : SB < W.heap.size := (Array.getElem?_eq_some_iff.1 hrow).1
  have HW := Lib.hid hW
  have HS0 : Hid (∀ j, smR q Ws D j 0 = 0) := Lib.hid fun j => rfl
  clear hW
  go_enter Try.func44, Try.ntmps44
  go_wp2_with fail
  rw [← HW.out]
  rw [← hSB, ← hRB]
  have HSB := Lib.hid hSB
  have HRB := Lib.hid hRB
  clear hSB hRB
  go_loopw [15] (fun x wr => ∃ i : Nat, i ≤ Ws.length ∧ x = .int .i64 i ∧ wr.heap[SB]? = some (.cells #[.int .i64 (smR q Ws D 0 i), .int .i64 (smR q Ws D 1 i), .int .i64 (smR q Ws D 2 i)] 67 (0, 0)) ∧ wr.heap[RB]? = some (.cells #[.int .i64 0, .int .i64 0, .int .i64 0] 67 (0, 0)) ∧ Below w.heap.size w wr) (fun x _ => Ws.length - (intOf x).toNat)
  case atStart => exact ⟨0, Nat.zero_le _, rfl, by rw [HS0.out, HS0.out, HS0.out]; exact hrow, hres, B0⟩
  case round =>
    clear hrow hres B0 hWs
    obtain ⟨i, hi, rfl, hrow, hres, B⟩ := hrel
    by_cases hlt : i < Ws.length
    · have k0 := kept_cell B (HC.out i 0 hlt (by omega)) hg
      have k1 := kept_cell B (HC.out i 1 hlt (by omega)) hg
      have k2 := kept_cell B (HC.out i 2 hlt (by omega)) hg
      obtain ⟨a0, b0⟩ := c3_bd HQ.out (gi Ws i) 0 (by omega)
      obtain ⟨a1, b1⟩ := c3_bd HQ.out (gi Ws i) 1 (by omega)
      obtain ⟨a2, b2⟩ := c3_bd HQ.out (gi Ws i) 2 (by omega)
      obtain ⟨p0, r0⟩ := smR_bd hq2 Ws D 0 i
      obtain ⟨p1, r1⟩ := smR_bd hq2 Ws D 1 i
      obtain ⟨p2, r2⟩ := smR_bd hq2 Ws D 2 i
      have hiD : i < D.length := by rw [HD.out]; exact hlt
      obtain ⟨d0, d1⟩ := HDb.out i hiD
      obtain ⟨b, o, hav, hbl, hc⟩ := hDI.at hiD
      subst hav
      have hdi := hc i hiD
      have HSU : Hid (∀ j, smR q Ws D j (i + 1) = (smR q Ws D j i + gi D i * gi (c3 q (gi Ws i)) j) % q) := Lib.hid fun j => rfl
      obtain ⟨y0, hy0⟩ : ∃ y, y = gi (c3 q (gi Ws i)) 0 := ⟨_, rfl⟩
      obtain ⟨y1, hy1⟩ : ∃ y, y = gi (c3 q (gi Ws i)) 1 := ⟨_, rfl⟩
      obtain ⟨y2, hy2⟩ : ∃ y, y = gi (c3 q (gi Ws i)) 2 := ⟨_, rfl⟩
      obtain ⟨s0, hs0⟩ : ∃ y, y = smR q Ws D 0 i := ⟨_, rfl⟩
      obtain ⟨s1, hs1⟩ : ∃ y, y = smR q Ws D 1 i := ⟨_, rfl⟩
      obtain ⟨s2, hs2⟩ : ∃ y, y = smR q Ws D 2 i := ⟨_, rfl⟩
      obtain ⟨d, hd⟩ : ∃ y, y = gi D i := ⟨_, rfl⟩
      rw [Nat.add_zero, ← hy0] at k0
      rw [← hy1] at k1
      rw [← hy2] at k2
      rw [← hy0] at a0 b0
      rw [← hy1] at a1 b1
      rw [← hy2] at a2 b2
      rw [← hs0] at p0 r0
      rw [← hs1] at p1 r1
      rw [← hs2] at p2 r2
      rw [← hs0, ← hs1, ← hs2] at hrow
      rw [← hd] at d0 d1 hdi
      have m0 : 0 ≤ d * y0 ∧ d * y0 ≤ 3 * 3 := ⟨Int.mul_nonneg d0 a0, Int.mul_le_mul (by omega) (by omega) a0 (by omega)⟩
      have m1 : 0 ≤ d * y1 ∧ d * y1 ≤ 3 * 3 := ⟨Int.mul_nonneg d0 a1, Int.mul_le_mul (by omega) (by omega) a1 (by omega)⟩
      have m2 : 0 ≤ d * y2 ∧ d * y2 ≤ 3 * 3 := ⟨Int.mul_nonneg d0 a2, Int.mul_le_mul (by omega) (by omega) a2 (by omega)⟩
      have HYS := Lib.hid (And.intro hy0 (And.intro hy1 (And.intro hy2 (And.intro hs0 (And.intro hs1 (And.intro hs2 hd))))))
      have i1 : (0 : Int) ≤ (i : Int) := by omega
      have i2 : (i : Int) < (n : Int) := by have := HN.out; omega
      clear hc hy0 hy1 hy2 hs0 hs1 hs2 hd
      obtain ⟨wq0, hwq⟩ : ∃ W0, W0 = wr.alloc (.cells #[.int .i64 y0, .int .i64 y1, .int .i64 y2] 67) := ⟨_, rfl⟩
      have Bq : Below wr.heap.size wr wq0 := by rw [hwq]; exact (Below.refl _ _).alloc (Nat.le_refl _) _
      have Bq0 := B.trans (Bq.mono B.size)
      have hrow0 := hrow
      rw [← Bq.block SB (Array.getElem?_eq_some_iff.1 hrow).1] at hrow0
      have hres0 := hres
      rw [← Bq.block RB (Array.getElem?_eq_some_iff.1 hres).1] at hres0
      have HWQ := Lib.hid hwq
      clear hwq
      go_wp2_with fail
      rw [← HWQ.out]
      refine wp_loop_rounds 4 ?_
      have hc0 : wq0.cell? ⟨SB, 0, none⟩ = some (.int .i64 s0) := by rw [cell_of_row wq0 SB 0 _ _ _ hrow0]; rfl
      have hf0 : wq0.frozen? ⟨SB, 0, none⟩ = false := frozen_of_row wq0 SB 0 _ _ hrow0
      have hd0 := kept_cell Bq0 hdi hbl
      have E1 : IntKind.i64.wrap (d * y0) = d * y0 := IntWalk.i64_in _ ⟨by omega, by omega⟩
      have E2 : IntKind.i64.wrap (s0 + d * y0) = s0 + d * y0 := IntWalk.i64_in _ ⟨by omega, by omega⟩
      have E3 : (s0 + d * y0).tmod q = (s0 + d * y0) % q := Int.tmod_eq_emod_of_nonneg (by omega)
      have hx0 := idx3_0 y0 y1 y2 wq0
      rw [rounds_succ]
      go_wp2_with fail
      go_still_tail 14, (by kernel_rfl)
      clear E1 E2 E3
      change wpList _ _ _ _ _ wq0.drew
      go_wp2_with fail
      have hrow0' := row3_set0 (.int .i64 ((s0 + d * y0) % q)) hrow0
      have Bq0' := (Bq0.setCell (p := ⟨SB, 0, none⟩) (by have := HSB.out; simp; omega) (.int .i64 ((s0 + d * y0) % q))).drew
      have hres0' : (wq0.setCell ⟨SB, 0, none⟩ (.int .i64 ((s0 + d * y0) % q))).drew.heap[RB]? = some (.cells #[.int .i64 0, .int .i64 0, .int .i64 0] 67 (0, 0)) := by
        show (wq0.setCell ⟨SB, 0, none⟩ _).heap[RB]? = _
        rw [Below.heap_setCell _ _ _ _ (by have h1 := HSB.out; have h2 := HRB.out; simp; omega)]; exact hres0
      obtain ⟨wq1, hwq⟩ : ∃ W0, W0 = (wq0.setCell ⟨SB, 0, none⟩ (.int .i64 ((s0 + d * y0) % q))).drew := ⟨_, rfl⟩
      rw [← hwq] at hrow0' Bq0' hres0' ⊢
      obtain ⟨z0, hz0⟩ : ∃ z, z = (s0 + d * y0) % q := ⟨_, rfl⟩
      rw [← hz0] at hrow0'
      have HZ0 := Lib.hid hz0
      have hrow1 := hrow0'
      have Bq1 := Bq0'
      have hres1 := hres0'
      clear hrow0' Bq0' hres0' hwq hz0 hc0 hf0 hd0 hx0
      have hc1 : wq1.cell? ⟨SB, 1, none⟩ = some (.int .i64 s1) := by rw [cell_of_row wq1 SB 1 _ _ _ hrow1]; rfl
      have hf1 : wq1.frozen? ⟨SB, 1, none⟩ = false := frozen_of_row wq1 SB 1 _ _ hrow1
      have hd1 := kept_cell Bq1 hdi hbl
      have E1 : IntKind.i64.wrap (d * y1) = d * y1 := IntWalk.i64_in _ ⟨by omega, by omega⟩
      have E2 : IntKind.i64.wrap (s1 + d * y1) = s1 + d * y1 := IntWalk.i64_in _ ⟨by omega, by omega⟩
      have E3 : (s1 + d * y1).tmod q = (s1 + d * y1) % q := Int.tmod_eq_emod_of_nonneg (by omega)
      have hx1 := idx3_1 y0 y1 y2 wq1
      rw [rounds_succ]
      go_wp2_with fail
      go_still_tail 14, (by kernel_rfl)
      clear E1 E2 E3
      change wpList _ _ _ _ _ wq1.drew
      go_wp2_with fail
      have hrow1' := row3_set1 (.int .i64 ((s1 + d * y1) % q)) hrow1
      have Bq1' := (Bq1.setCell (p := ⟨SB, 1, none⟩) (by have := HSB.out; simp; omega) (.int .i64 ((s1 + d * y1) % q))).drew
      have hres1' : (wq1.setCell ⟨SB, 1, none⟩ (.int .i64 ((s1 + d * y1) % q))).drew.heap[RB]? = some (.cells #[.int .i64 0, .int .i64 0, .int .i64 0] 67 (0, 0)) := by
        show (wq1.setCell ⟨SB, 1, none⟩ _).heap[RB]? = _
        rw [Below.heap_setCell _ _ _ _ (by have h1 := HSB.out; have h2 := HRB.out; simp; omega)]; exact hres1
      obtain ⟨wq2, hwq⟩ : ∃ W0, W0 = (wq1.setCell ⟨SB, 1, none⟩ (.int .i64 ((s1 + d * y1) % q))).drew := ⟨_, rfl⟩
      rw [← hwq] at hrow1' Bq1' hres1' ⊢
      obtain ⟨z1, hz1⟩ : ∃ z, z = (s1 + d * y1) % q := ⟨_, rfl⟩
      rw [← hz1] at hrow1'
      have HZ1 := Lib.hid hz1
      have hrow2 := hrow1'
      have Bq2 := Bq1'
      have hres2 := hres1'
      clear hrow1' Bq1' hres1' hwq hz1 hc1 hf1 hd1 hx1
      have hc2 : wq2.cell? ⟨SB, 2, none⟩ = some (.int .i64 s2) := by rw [cell_of_row wq2 SB 2 _ _ _ hrow2]; rfl
      have hf2 : wq2.frozen? ⟨SB, 2, none⟩ = false := frozen_of_row wq2 SB 2 _ _ hrow2
      have hd2 := kept_cell Bq2 hdi hbl
      have E1 : IntKind.i64.wrap (d * y2) = d * y2 := IntWalk.i64_in _ ⟨by omega, by omega⟩
      have E2 : IntKind.i64.wrap (s2 + d * y2) = s2 + d * y2 := IntWalk.i64_in _ ⟨by omega, by omega⟩
      have E3 : (s2 + d * y2).tmod q = (s2 + d * y2) % q := Int.tmod_eq_emod_of_nonneg (by omega)
      have hx2 := idx3_2 y0 y1 y2 wq2
      rw [rounds_succ]
      go_wp2_with fail
      go_still_tail 14, (by kernel_rfl)
      clear E1 E2 E3
      change wpList _ _ _ _ _ wq2.drew
      go_wp2_with fail
      have hrow2' := row3_set2 (.int .i64 ((s2 + d * y2) % q)) hrow2
      have Bq2' := (Bq2.setCell (p := ⟨SB, 2, none⟩) (by have := HSB.out; simp; omega) (.int .i64 ((s2 + d * y2) % q))).drew
      have hres2' : (wq2.setCell ⟨SB, 2, none⟩ (.int .i64 ((s2 + d * y2) % q))).drew.heap[RB]? = some (.cells #[.int .i64 0, .int .i64 0, .int .i64 0] 67 (0, 0)) := by
        show (wq2.setCell ⟨SB, 2, none⟩ _).heap[RB]? = _
        rw [Below.heap_setCell _ _ _ _ (by have h1 := HSB.out; have h2 := HRB.out; simp; omega)]; exact hres2
      obtain ⟨wq3, hwq⟩ : ∃ W0, W0 = (wq2.setCell ⟨SB, 2, none⟩ (.int .i64 ((s2 + d * y2) % q))).drew := ⟨_, rfl⟩
      rw [← hwq] at hrow2' Bq2' hres2' ⊢
      obtain ⟨z2, hz2⟩ : ∃ z, z = (s2 + d * y2) % q := ⟨_, rfl⟩
      rw [← hz2] at hrow2'
      have HZ2 := Lib.hid hz2
      have hrow3 := hrow2'
      have Bq3 := Bq2'
      have hres3 := hres2'
      clear hrow2' Bq2' hres2' hwq hz2 hc2 hf2 hd2 hx2
      rw [rounds_succ]
      go_wp2_with fail
      obtain ⟨hy0, hy1, hy2, hs0, hs1, hs2, hd⟩ := HYS.out
      have e0 : smR q Ws D 0 (i + 1) = z0 := by rw [HSU.out, HZ0.out, hs0, hd, hy0]
      have e1 : smR q Ws D 1 (i + 1) = z1 := by rw [HSU.out, HZ1.out, hs1, hd, hy1]
      have e2 : smR q Ws D 2 (i + 1) = z2 := by rw [HSU.out, HZ2.out, hs2, hd, hy2]
      go_roundw
      case rel => exact ⟨i + 1, by omega, by go_num, by rw [e0, e1, e2]; exact hrow3, hres3, Bq3⟩
      case measure => simp [intOf]; omega
    · have HI := Lib.hid (show i = Ws.length by omega)
      have hr0 : wr.cell? ⟨SB, 0, none⟩ = some (.int .i64 (smR q Ws D 0 i)) := by rw [cell_of_row wr SB 0 _ _ _ hrow]; rfl
      have hr1 : wr.cell? ⟨SB, 1, none⟩ = some (.int .i64 (smR q Ws D 1 i)) := by rw [cell_of_row wr SB 1 _ _ _ hrow]; rfl
      have hr2 : wr.cell? ⟨SB, 2, none⟩ = some (.int .i64 (smR q Ws D 2 i)) := by rw [cell_of_row wr SB 2 _ _ _ hrow]; rfl
      have hq0 : wr.cell? ⟨RB, 0, none⟩ = some (.int .i64 0) := by rw [cell_of_row wr RB 0 _ _ _ hres]; rfl
      have hq1 : wr.cell? ⟨RB, 1, none⟩ = some (.int .i64 0) := by rw [cell_of_row wr RB 1 _ _ _ hres]; rfl
      have hq2' : wr.cell? ⟨RB, 2, none⟩ = some (.int .i64 0) := by rw [cell_of_row wr RB 2 _ _ _ hres]; rfl
      have hw0 : wr.frozen? ⟨RB, 0, none⟩ = false := frozen_of_row wr RB 0 _ _ hres
      have hw1 : wr.frozen? ⟨RB, 1, none⟩ = false := frozen_of_row wr RB 1 _ _ hres
      have hw2 : wr.frozen? ⟨RB, 2, none⟩ = false := frozen_of_row wr RB 2 _ _ hres
      go_wp2_with fail
      have n0 : (wr.setCell ⟨RB, 0, none⟩ (.int .i64 (smR q Ws D 0 i))).heap[RB]? = some (.cells #[.int .i64 (smR q Ws D 0 i), .int .i64 0, .int .i64 0] 67 (0, 0)) := row3_set0 _ hres
      have n1 : ((wr.setCell ⟨RB, 0, none⟩ (.int .i64 (smR q Ws D 0 i))).setCell ⟨RB, 1, none⟩ (.int .i64 (smR q Ws D 1 i))).heap[RB]? = some (.cells #[.int .i64 (smR q Ws D 0 i), .int .i64 (smR q Ws D 1 i), .int .i64 0] 67 (0, 0)) := row3_set1 _ n0
      have n2 : (((wr.setCell ⟨RB, 0, none⟩ (.int .i64 (smR q Ws D 0 i))).setCell ⟨RB, 1, none⟩ (.int .i64 (smR q Ws D 1 i))).setCell ⟨RB, 2, none⟩ (.int .i64 (smR q Ws D 2 i))).heap[RB]? = some (.cells #[.int .i64 (smR q Ws D 0 i), .int .i64 (smR q Ws D 1 i), .int .i64 (smR q Ws D 2 i)] 67 (0, 0)) := row3_set2 _ n1
      have BR : Below w.heap.size w (((wr.setCell ⟨RB, 0, none⟩ (.int .i64 (smR q Ws D 0 i))).setCell ⟨RB, 1, none⟩ (.int .i64 (smR q Ws D 1 i))).setCell ⟨RB, 2, none⟩ (.int .i64 (smR q Ws D 2 i))) :=
        ((B.setCell (by have := HRB.out; simp; omega) _).setCell (by have := HRB.out; simp; omega) _).setCell (by have := HRB.out; simp; omega) _
      refine bodyPost_ret (v := .agg #[.int .i64 (smR q Ws D 0 i), .int .i64 (smR q Ws D 1 i), .int .i64 (smR q Ws D 2 i)]) (results_cell_row (by rfl) _ _ RB _ _ _ _ (by rfl) n2 Try.underlying67 rfl (by kernel_rfl)) rfl ?_
      exact ⟨by rw [HI.out], BR⟩

end Go.Proofs.Ytcnnijeokefboab

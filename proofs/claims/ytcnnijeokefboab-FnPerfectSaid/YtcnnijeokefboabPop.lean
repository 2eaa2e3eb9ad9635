/-
  Plain facts on counting bits by bytes, as math/bits does. Written by an AI agent.
-/
import Derived.Test.YtcnnijeokefboabMathB
namespace Go.Proofs.Ytcnnijeokefboab
set_option linter.unusedVariables false
set_option linter.unusedSimpArgs false
namespace Cv

theorem land_split (a c r s : Nat) (hr : r < 256) (hs : s < 256) : (r + 256 * a) &&& (s + 256 * c) = (r &&& s) + 256 * (a &&& c) := by
  have e : ∀ x y : Nat, x < 256 → x + 256 * y = 2 ^ 8 * y + x := fun x y _ => by omega
  have hrs : r &&& s < 256 := Nat.lt_of_le_of_lt Nat.and_le_left hr
  rw [e r a hr, e s c hs, e _ _ hrs]
  refine Nat.eq_of_testBit_eq fun b => ?_
  rw [Nat.testBit_and, Nat.testBit_two_pow_mul_add _ hr, Nat.testBit_two_pow_mul_add _ hs, Nat.testBit_two_pow_mul_add _ hrs]
  split
  · rw [Nat.testBit_and]
  · rw [Nat.testBit_and]
/-- a function of bytes, of the first n bytes of a number -/
def mapB (f : Nat → Nat) : Nat → Nat → Nat
  | 0, _ => 0
  | n + 1, x => f (x % 256) + 256 * mapB f n (x / 256)
/-- n times the byte m -/
def repB (m : Nat) : Nat → Nat
  | 0 => 0
  | n + 1 => m + 256 * repB m n
theorem rep_and (m : Nat) (hm : m < 256) (n : Nat) : ∀ x, x &&& repB m n = mapB (fun r => r &&& m) n x := by
  induction n with
  | zero => intro x; simp [repB, mapB]
  | succ n ih =>
    intro x
    rw [repB, mapB, ← ih]
    have h := land_split (x / 256) (repB m n) (x % 256) m (Nat.mod_lt _ (by omega)) hm
    rw [show x % 256 + 256 * (x / 256) = x by omega] at h
    exact h
theorem map_low (f : Nat → Nat) (hf : ∀ r, r < 256 → f r < 256) (n x : Nat) : mapB f (n + 1) x % 256 = f (x % 256) ∧ mapB f (n + 1) x / 256 = mapB f n (x / 256) := by
  have h := hf (x % 256) (Nat.mod_lt _ (by omega))
  rw [mapB]
  exact ⟨by omega, by omega⟩
theorem map_map (f g : Nat → Nat) (hf : ∀ r, r < 256 → f r < 256) (n : Nat) : ∀ x, mapB g n (mapB f n x) = mapB (fun r => g (f r)) n x := by
  induction n with
  | zero => intro x; rfl
  | succ n ih =>
    intro x
    obtain ⟨h1, h2⟩ := map_low f hf n x
    rw [mapB, h1, h2, ih]; rfl
theorem map_add (f g : Nat → Nat) (n : Nat) : ∀ x, mapB f n x + mapB g n x = mapB (fun r => f r + g r) n x := by
  induction n with
  | zero => intro x; rfl
  | succ n ih => intro x; rw [mapB, mapB, mapB, ← ih]; omega
theorem map_congr {f g : Nat → Nat} (h : ∀ r, r < 256 → f r = g r) (n : Nat) : ∀ x, mapB f n x = mapB g n x := by
  induction n with
  | zero => intro x; rfl
  | succ n ih => intro x; rw [mapB, mapB, ih, h _ (Nat.mod_lt _ (by omega))]
theorem map_bd (f : Nat → Nat) (hf : ∀ r, r < 256 → f r < 256) (n : Nat) : ∀ x, mapB f n x < 256 ^ n := by
  induction n with
  | zero => intro x; simp [mapB]
  | succ n ih =>
    intro x
    have := hf (x % 256) (Nat.mod_lt _ (by omega))
    have := ih (x / 256)
    rw [mapB, Nat.pow_succ]; omega
/-- a shift whose bits from the next byte the mask strikes -/
theorem shift_and (d m : Nat) (hd : 256 % d = 0) (hd0 : 0 < d) (hm : m < 256) (hk : ∀ r, r < 256 → ∀ c, c < d → (r / d + 256 / d * c) &&& m = r / d &&& m) (hk2 : ∀ r, r < 256 → ∀ c, c < d → r / d + 256 / d * c < 256) (n : Nat) : ∀ x, x / d &&& repB m n = mapB (fun r => r / d &&& m) n x := by
  obtain ⟨e, he⟩ : ∃ e, 256 = d * e := ⟨256 / d, by have := Nat.div_add_mod 256 d; omega⟩
  have hde : 256 / d = e := by rw [he]; exact Nat.mul_div_cancel_left _ hd0
  induction n with
  | zero => intro x; simp [repB, mapB]
  | succ n ih =>
    intro x
    have hr := Nat.mod_lt x (show 0 < 256 by omega)
    have hc := Nat.mod_lt (x / 256) hd0
    have h1 : x / d = (x % 256 / d + e * (x / 256 % d)) + 256 * (x / 256 / d) := by
      have h2 : x = x % 256 + d * (e * (x / 256)) := by rw [← Nat.mul_assoc, ← he]; omega
      have h3 : x / d = x % 256 / d + e * (x / 256) := by
        conv => lhs; rw [h2]
        exact Nat.add_mul_div_left _ _ hd0
      have h4 : x / 256 = d * (x / 256 / d) + x / 256 % d := (Nat.div_add_mod _ _).symm
      have h5 : e * (x / 256) = e * (x / 256 % d) + 256 * (x / 256 / d) := by
        conv => lhs; rw [h4]
        rw [Nat.mul_add, ← Nat.mul_assoc, Nat.mul_comm e d, ← he]; omega
      omega
    have hb := hk2 _ hr _ hc
    have hk' := hk _ hr _ hc
    rw [hde] at hb hk'
    rw [repB, mapB, ← ih, h1, land_split _ _ _ _ hb hm, hk']

def t1 (r : Nat) : Nat := (r / 2 &&& 85) + (r &&& 85)
def t2 (r : Nat) : Nat := (r / 4 &&& 51) + (r &&& 51)
def t3 (r : Nat) : Nat := (r / 16 + r) &&& 15
theorem t1_bd : ∀ r, r < 256 → t1 r < 256 := by decide +kernel
theorem t2_bd : ∀ r, r < 256 → t2 r < 256 := by decide +kernel
theorem t21_bd : ∀ r, r < 256 → t2 (t1 r) ≤ 68 ∧ t2 (t1 r) % 16 ≤ 4 := by decide +kernel
theorem t321 : ∀ r, r < 256 → t3 (t2 (t1 r)) = bsum r 8 := by decide +kernel
theorem bsum8_le : ∀ r, r < 256 → bsum r 8 ≤ 8 := by decide +kernel
theorem step1 (n x : Nat) : (x / 2 &&& repB 85 n) + (x &&& repB 85 n) = mapB t1 n x := by
  rw [shift_and 2 85 (by decide) (by decide) (by decide) (by decide +kernel) (by decide +kernel), rep_and 85 (by decide), map_add]; rfl
theorem step2 (n x : Nat) : (x / 4 &&& repB 51 n) + (x &&& repB 51 n) = mapB t2 n x := by
  rw [shift_and 4 51 (by decide) (by decide) (by decide) (by decide +kernel) (by decide +kernel), rep_and 51 (by decide), map_add]; rfl
theorem and15 (x : Nat) : x &&& 15 = x % 16 := Nat.and_two_pow_sub_one_eq_mod x 4
theorem step3 (u : Nat → Nat) (hu : ∀ r, r < 256 → u r ≤ 68 ∧ u r % 16 ≤ 4) (n : Nat) : ∀ x, (mapB u n x / 16 + mapB u n x) &&& repB 15 n = mapB (fun r => t3 (u r)) n x := by
  induction n with
  | zero => intro x; simp [repB, mapB]
  | succ n ih =>
    intro x
    have h := hu (x % 256) (Nat.mod_lt _ (by omega))
    have hc : mapB u n (x / 256) % 16 ≤ 4 := by
      cases n with
      | zero => simp [mapB]
      | succ n =>
        have h2 := hu (x / 256 % 256) (Nat.mod_lt _ (by omega))
        rw [mapB]; omega
    rw [repB, mapB, mapB, ← ih]
    obtain ⟨A, hA⟩ : ∃ A, A = u (x % 256) := ⟨_, rfl⟩
    obtain ⟨Y, hY⟩ : ∃ Y, Y = mapB u n (x / 256) := ⟨_, rfl⟩
    rw [← hA] at h ⊢
    rw [← hY] at hc ⊢
    rw [show (A + 256 * Y) / 16 + (A + 256 * Y) = (A / 16 + A + 16 * (Y % 16)) + 256 * (Y / 16 + Y) by omega, land_split _ _ _ _ (by omega) (by decide)]
    unfold t3
    rw [and15, and15]; omega
theorem dv (a b : Nat) (h : a < 256) : (a + 256 * b) / 256 = b := by omega
theorem last3 (c0 c1 c2 c3 c4 c5 c6 c7 y : Nat) (h0 : c0 ≤ 8) (h1 : c1 ≤ 8) (h2 : c2 ≤ 8) (h3 : c3 ≤ 8) (h4 : c4 ≤ 8) (h5 : c5 ≤ 8) (h6 : c6 ≤ 8) (h7 : c7 ≤ 8)
    (hy : y = c0 + 256 * (c1 + 256 * (c2 + 256 * (c3 + 256 * (c4 + 256 * (c5 + 256 * (c6 + 256 * (c7 + 256 * 0)))))))) (z v u : Nat) (hz : z = y + y / 256) (hv : v = z + z / 65536) (hu : u = v + v / 4294967296) :
    u < 9223372036854775808 ∧ u % 128 = c0 + c1 + c2 + c3 + c4 + c5 + c6 + c7 := by
  have e1 : y / 256 = c1 + 256 * (c2 + 256 * (c3 + 256 * (c4 + 256 * (c5 + 256 * (c6 + 256 * (c7 + 256 * 0)))))) := by rw [hy]; exact dv _ _ (by omega)
  have e2 : z = (c0 + c1) + 256 * ((c1 + c2) + 256 * ((c2 + c3) + 256 * ((c3 + c4) + 256 * ((c4 + c5) + 256 * ((c5 + c6) + 256 * ((c6 + c7) + 256 * c7)))))) := by rw [hz, e1, hy]; clear hz e1 hy hv hu; omega
  have e3 : z / 65536 = (c2 + c3) + 256 * ((c3 + c4) + 256 * ((c4 + c5) + 256 * ((c5 + c6) + 256 * ((c6 + c7) + 256 * c7)))) := by
    rw [show (65536 : Nat) = 256 * 256 from rfl, ← Nat.div_div_eq_div_mul, e2, dv _ _ (by omega), dv _ _ (by omega)]
  have e4 : v = (c0 + c1 + c2 + c3) + 256 * ((c1 + c2 + c3 + c4) + 256 * ((c2 + c3 + c4 + c5) + 256 * ((c3 + c4 + c5 + c6) + 256 * ((c4 + c5 + c6 + c7) + 256 * ((c5 + c6 + c7) + 256 * ((c6 + c7) + 256 * c7)))))) := by rw [hv, e3, e2]; clear hz e1 hy hv hu e2 e3; omega
  have e5 : v / 4294967296 = (c4 + c5 + c6 + c7) + 256 * ((c5 + c6 + c7) + 256 * ((c6 + c7) + 256 * c7)) := by
    rw [show (4294967296 : Nat) = 256 * 256 * 256 * 256 from rfl, ← Nat.div_div_eq_div_mul, ← Nat.div_div_eq_div_mul, ← Nat.div_div_eq_div_mul, e4, dv _ _ (by omega), dv _ _ (by omega), dv _ _ (by omega), dv _ _ (by omega)]
  obtain ⟨K, hK⟩ : ∃ K, K = ((c1 + c2 + c3 + c4) + 256 * ((c2 + c3 + c4 + c5) + 256 * ((c3 + c4 + c5 + c6) + 256 * ((c4 + c5 + c6 + c7) + 256 * ((c5 + c6 + c7) + 256 * ((c6 + c7) + 256 * c7)))))) + ((c5 + c6 + c7) + 256 * ((c6 + c7) + 256 * c7)) := ⟨_, rfl⟩
  have e6 : u = (c0 + c1 + c2 + c3 + c4 + c5 + c6 + c7) + 256 * K := by rw [hu, e5, e4, hK]; clear hz e1 hy hv hu e2 e3 e4 e5 hK; omega
  have bK : K < 9007199254740992 := by rw [hK]; clear hz e1 hy hv hu e2 e3 e4 e5 e6 hK; omega
  clear hz e1 hy hv hu e2 e3 e4 e5 hK
  constructor <;> omega

theorem bsum_shift (m : Nat) (k : Nat) : bsum m (8 + k) = bsum (m % 256) 8 + bsum (m / 256) k := by
  induction k with
  | zero =>
    show bsum m 8 = bsum (m % 256) 8 + 0
    have h : ∀ j, j ≤ 8 → bsum m j = bsum (m % 256) j := by
      intro j
      induction j with
      | zero => intro _; rfl
      | succ j ih =>
        intro hj
        rw [bsum, bsum, ih (by omega)]
        have e : m / 2 ^ j % 2 = m % 256 / 2 ^ j % 2 := by
          have h1 : (m % 2 ^ 8).testBit j = m.testBit j := by rw [Nat.testBit_mod_two_pow]; simp; omega
          rw [Nat.testBit_eq_decide_div_mod_eq, Nat.testBit_eq_decide_div_mod_eq] at h1
          have a1 : m / 2 ^ j % 2 = 0 ∨ m / 2 ^ j % 2 = 1 := by omega
          have a2 : m % 2 ^ 8 / 2 ^ j % 2 = 0 ∨ m % 2 ^ 8 / 2 ^ j % 2 = 1 := by omega
          show m / 2 ^ j % 2 = m % 2 ^ 8 / 2 ^ j % 2
          rcases a1 with a1 | a1 <;> rcases a2 with a2 | a2 <;> rw [a1, a2] at h1 <;> simp at h1 <;> rw [a1, a2]
        rw [e]
    exact h 8 (Nat.le_refl _)
  | succ k ih =>
    rw [← Nat.add_assoc, bsum, ih, bsum, Nat.add_assoc]
    congr 2
    rw [show 2 ^ (8 + k) = 256 * 2 ^ k by rw [Nat.pow_add], Nat.div_div_eq_div_mul]
/-- as math/bits counts the bits of a number -/
theorem pop_64 (x : Nat) (a1 a2 a3 a4 a5 a6 : Nat) (h1 : a1 = (x / 2 &&& 6148914691236517205) + (x &&& 6148914691236517205)) (h2 : a2 = (a1 / 4 &&& 3689348814741910323) + (a1 &&& 3689348814741910323))
    (h3 : a3 = (a2 / 16 + a2) &&& 1085102592571150095) (h4 : a4 = a3 + a3 / 256) (h5 : a5 = a4 + a4 / 65536) (h6 : a6 = a5 + a5 / 4294967296) :
    a1 < 18446744073709551616 ∧ a2 / 16 + a2 < 18446744073709551616 ∧ a6 < 9223372036854775808 ∧ a6 % 128 = bsum x 64 := by
  have e1 : a1 = mapB t1 8 x := by rw [h1]; exact step1 8 x
  have e2 : a2 = mapB (fun r => t2 (t1 r)) 8 x := by rw [h2, e1, ← map_map t1 t2 t1_bd]; exact step2 8 _
  have e3 : a3 = mapB (fun r => bsum r 8) 8 x := by
    rw [h3, e2, ← map_congr (f := fun r => t3 (t2 (t1 r))) t321]
    exact step3 (fun r => t2 (t1 r)) t21_bd 8 x
  have b1 := map_bd t1 t1_bd 8 x
  rw [← e1] at b1
  have b2 : a2 ≤ 4919131752989213764 := by
    have h : ∀ n x, mapB (fun r => t2 (t1 r)) n x ≤ repB 68 n := by
      intro n
      induction n with
      | zero => intro x; simp [mapB, repB]
      | succ n ih => intro x; have := (t21_bd (x % 256) (Nat.mod_lt _ (by omega))).1; have := ih (x / 256); rw [mapB, repB]; omega
    rw [e2]; exact h 8 x
  have bb : ∀ y, bsum (y % 256) 8 ≤ 8 := fun y => bsum8_le _ (Nat.mod_lt _ (by omega))
  obtain ⟨l1, l2⟩ := last3 _ _ _ _ _ _ _ _ a3 (bb x) (bb (x / 256)) (bb (x / 256 / 256)) (bb (x / 256 / 256 / 256)) (bb (x / 256 / 256 / 256 / 256)) (bb (x / 256 / 256 / 256 / 256 / 256)) (bb (x / 256 / 256 / 256 / 256 / 256 / 256)) (bb (x / 256 / 256 / 256 / 256 / 256 / 256 / 256)) (by rw [e3]; rfl) a4 a5 a6 h4 h5 h6
  refine ⟨by simpa using b1, by omega, l1, ?_⟩
  rw [l2]
  have s : ∀ y k, bsum y (8 + k) = bsum (y % 256) 8 + bsum (y / 256) k := bsum_shift
  have f1 := s x 56
  have f2 := s (x / 256) 48
  have f3 := s (x / 256 / 256) 40
  have f4 := s (x / 256 / 256 / 256) 32
  have f5 := s (x / 256 / 256 / 256 / 256) 24
  have f6 := s (x / 256 / 256 / 256 / 256 / 256) 16
  have f7 := s (x / 256 / 256 / 256 / 256 / 256 / 256) 8
  have f8 := s (x / 256 / 256 / 256 / 256 / 256 / 256 / 256) 0
  simp only [Nat.reduceAdd] at f1 f2 f3 f4 f5 f6 f7 f8
  have f9 : bsum (x / 256 / 256 / 256 / 256 / 256 / 256 / 256 / 256) 0 = 0 := rfl
  omega

end Cv
end Go.Proofs.Ytcnnijeokefboab

/-
  Arguments of the laws opened: a space by value, a list of numbers. By an AI agent.
-/
import Derived.Test.YtgaelpcghljihaaMem
import Derived.ProofKit
import Derived.OpenShut
namespace Go.Proofs.Ytgaelpcghljihaa
open Go.RowKit Go.ChangeShapes Go.WideShapes Go.ChangeAt Cv
set_option linter.unusedVariables false
set_option maxRecDepth 100000

theorem own : ownKnob Try.prog.godebug = none := by kernel_rfl
theorem laidOut : laidOutB Try.prog = true := by kernel_rfl

theorem wf_i64_bd {n : Int} (h : (Lit.int .i64 n).wf = true) : -9223372036854775808 ≤ n ∧ n ≤ 9223372036854775807 := by
  simpa [Lit.wf, IntKind.min, IntKind.max, IntKind.signed, IntKind.bits] using h

theorem row_ints {H : Type} {enc : TypeId × Value → H} {W : World} {sp : Nat → Bool} {fuel : Nat} {v : Value} {x : DataW H × List MemPlace} {a : Option Addr} {len cap : Nat} (hv : v = .slice a len cap)
    (hf : DataW.trod enc Try.prog W 0 sp true fuel 22 [v] = some x) : ∃ S : List Int, len = S.length ∧ S.length ≤ 9223372036854775807 ∧ Ints W a S := by
  subst hv
  rcases open_ints Try.underlying22 Try.underlying2 (by kernel_rfl) hf with ⟨hcs, _⟩ | ⟨ad, l, c, zs, hcs, _, hl, hm, hz, _, hcell, hwz⟩
  · simp only [List.cons.injEq, Value.slice.injEq, and_true] at hcs
    exact ⟨[], by simp [hcs.2.1], by simp, .inl rfl⟩
  · simp only [List.cons.injEq, Value.slice.injEq, and_true] at hcs
    obtain ⟨ha, hlen, hcap⟩ := hcs
    unfold maxLen at hm
    have hlz : l ≤ zs.length := by rw [hz]; split <;> omega
    have hlt : (zs.take l).length = l := by rw [List.length_take]; omega
    refine ⟨zs.take l, by rw [hlt]; exact hlen, by omega, ?_⟩
    by_cases h0 : l = 0
    · exact .inl (by omega)
    · obtain ⟨b, off, spot⟩ := ad
      have hc0 := hcell 0 (by omega)
      have hspot : spot = none := by simpa [Addr.add] using World.cell?_spot hc0
      subst hspot
      refine .inr ⟨b, off, ha, World.block_lt_of_cell? W _ hc0, fun i hi => ?_⟩
      have hci := hcell i (by omega)
      have e : gi (zs.take l) i = zs.getD i 0 := by rw [gi_take _ _ _ (by omega)]; rfl
      rw [e, ← hci]
      congr 1
      unfold Addr.add
      split
      · simp_all
      · rfl

theorem open_intsv {H : Type} {enc : TypeId × Value → H} {W : World} {base : Nat} {sp : Nat → Bool} {v : Value} {d : DataW H} {p : List MemPlace} (hv : Value.okWide Try.prog W .any base 22 v) (h : DataW.Trod enc Try.prog W 0 sp true 22 v d p) :
    ∃ (a : Option Addr) (S : List Int) (cap : Nat), v = .slice a S.length cap ∧ S.length ≤ 9223372036854775807 ∧ Ints W a S := by
  obtain ⟨a, len, cap, rfl⟩ := okWide_slice Try.underlying22 hv
  obtain ⟨fuel, hf⟩ := h
  obtain ⟨S, hl, h1, h2⟩ := row_ints rfl (by simpa [Value.cells] using hf)
  subst hl
  exact ⟨a, S, cap, rfl, h1, h2⟩

theorem open_space {H : Type} {enc : TypeId × Value → H} {W : World} {base : Nat} {sp : Nat → Bool} {v : Value} {d : DataW H} {p : List MemPlace} (hv : Value.okWide Try.prog W .any base 33 v) (h : DataW.Trod enc Try.prog W 0 sp true 33 v d p) :
    ∃ (a : Option Addr) (S : List Int) (cap : Nat), v = .agg #[.slice a S.length cap] ∧ S.length ≤ 9223372036854775807 ∧ Ints W a S := by
  obtain ⟨cs, rfl, hsz⟩ := okWide_struct Try.underlying33 hv
  have hC : Try.prog.cellsOf 33 = 1 := by kernel_rfl
  obtain ⟨l⟩ := cs
  match l, hsz.trans hC with
  | [c0], _ =>
    obtain ⟨fuel, hf⟩ := h
    obtain ⟨xs, n, _, _, _, hlen, hff⟩ := DataW.trod_struct Try.underlying33 hf
    match xs, hlen with
    | [y0], _ =>
      have hk : Try.prog.cellsOf 22 = 1 := by kernel_rfl
      have h0 := hff 0 _ rfl
      simp [Value.cells, hk] at h0
      have hsl : ∃ a len cap, c0 = .slice a len cap := by
        rcases open_ints Try.underlying22 Try.underlying2 (by kernel_rfl) h0 with ⟨hcs, _⟩ | ⟨ad, l, c, zs, hcs, _⟩
        · simp only [List.cons.injEq, and_true] at hcs
          exact ⟨_, _, _, hcs⟩
        · simp only [List.cons.injEq, and_true] at hcs
          exact ⟨_, _, _, hcs⟩
      obtain ⟨a, len, cap, rfl⟩ := hsl
      obtain ⟨S, hl, h1, h2⟩ := row_ints rfl h0
      subst hl
      exact ⟨a, S, cap, rfl, h1, h2⟩

theorem open_lottery {H : Type} {enc : TypeId × Value → H} {W : World} {base : Nat} {sp : Nat → Bool} {x : Value} {dd : DataW H} {pp : List MemPlace} (hv : Value.okWide Try.prog W .any base 34 x) (hh : DataW.Trod enc Try.prog W 0 sp true 34 x dd pp) :
    ∃ v p d h : Int, x = .agg #[.int .i64 v, .int .i64 p, .int .i64 d, .int .i64 h] := by
  obtain ⟨cs, rfl, hsz⟩ := okWide_struct Try.underlying34 hv
  have hC : Try.prog.cellsOf 34 = 4 := by kernel_rfl
  obtain ⟨l⟩ := cs
  match l, hsz.trans hC with
  | [c0, c1, c2, c3], _ =>
    obtain ⟨fuel, hf⟩ := hh
    obtain ⟨xs, n, _, _, _, hlen, hff⟩ := DataW.trod_struct Try.underlying34 hf
    match xs, hlen with
    | [y0, y1, y2, y3], _ =>
      have hk : Try.prog.cellsOf 2 = 1 := by kernel_rfl
      have h0 := hff 0 _ rfl
      have h1 := hff 1 _ rfl
      have h2 := hff 2 _ rfl
      have h3 := hff 3 _ rfl
      simp [Value.cells, hk] at h0 h1 h2 h3
      obtain ⟨n0, e0, _, _⟩ := DataW.trod_int Try.underlying2 h0
      obtain ⟨n1, e1, _, _⟩ := DataW.trod_int Try.underlying2 h1
      obtain ⟨n2, e2, _, _⟩ := DataW.trod_int Try.underlying2 h2
      obtain ⟨n3, e3, _, _⟩ := DataW.trod_int Try.underlying2 h3
      simp at e0 e1 e2 e3
      exact ⟨n0, n1, n2, n3, by rw [e0, e1, e2, e3]⟩

theorem open_desk {H : Type} {enc : TypeId × Value → H} {W : World} {base : Nat} {sp : Nat → Bool} {x : Value} {dd : DataW H} {pp : List MemPlace} (hv : Value.okWide Try.prog W .any base 36 x) (hh : DataW.Trod enc Try.prog W 0 sp true 36 x dd pp) :
    ∃ (aS : Option Addr) (S : List Int) (cS : Nat) (aC : Option Addr) (C : List Int) (cC : Nat) (v p d h : Int) (aT : Option Addr) (T : List Int) (cT : Nat), x = .agg #[.slice aS S.length cS, .slice aC C.length cC, .int .i64 v, .int .i64 p, .int .i64 d, .int .i64 h, .slice aT T.length cT] ∧ S.length ≤ 9223372036854775807 ∧ C.length ≤ 9223372036854775807 ∧ T.length ≤ 9223372036854775807 ∧ Ints W aS S ∧ Ints W aC C ∧ Ints W aT T := by
  obtain ⟨cs, rfl, hsz⟩ := okWide_struct Try.underlying36 hv
  have hC : Try.prog.cellsOf 36 = 7 := by kernel_rfl
  have hkS : Try.prog.cellsOf 33 = 1 := by kernel_rfl
  have hkL : Try.prog.cellsOf 34 = 4 := by kernel_rfl
  have hkI : Try.prog.cellsOf 22 = 1 := by kernel_rfl
  have hk : Try.prog.cellsOf 2 = 1 := by kernel_rfl
  obtain ⟨l⟩ := cs
  match l, hsz.trans hC with
  | [c0, c1, c2, c3, c4, c5, c6], _ =>
    obtain ⟨fuel, hf⟩ := hh
    obtain ⟨xs, n, _, _, _, hlen, hff⟩ := DataW.trod_struct Try.underlying36 hf
    match xs, hlen with
    | [y0, y1, y2, y3], _ =>
      have h0 := hff 0 _ rfl
      have h1 := hff 1 _ rfl
      have h2 := hff 2 _ rfl
      have h3 := hff 3 _ rfl
      simp [Value.cells, hkS, hkL, hkI] at h0 h1 h2 h3
      obtain ⟨xs0, n0, _, _, _, hlen0, hff0⟩ := DataW.trod_struct Try.underlying33 h0
      obtain ⟨xs2, n2, _, _, _, hlen2, hff2⟩ := DataW.trod_struct Try.underlying34 h2
      match xs0, hlen0, xs2, hlen2 with
      | [z0], _, [u0, u1, u2, u3], _ =>
        have g0 := hff0 0 _ rfl
        have g1 := hff2 0 _ rfl
        have g2 := hff2 1 _ rfl
        have g3 := hff2 2 _ rfl
        have g4 := hff2 3 _ rfl
        simp [hk, hkI] at g0 g1 g2 g3 g4
        obtain ⟨m1, e1, _, _⟩ := DataW.trod_int Try.underlying2 g1
        obtain ⟨m2, e2, _, _⟩ := DataW.trod_int Try.underlying2 g2
        obtain ⟨m3, e3, _, _⟩ := DataW.trod_int Try.underlying2 g3
        obtain ⟨m4, e4, _, _⟩ := DataW.trod_int Try.underlying2 g4
        simp at e1 e2 e3 e4
        have sl : ∀ {fuel : Nat} {c : Value} {x : DataW H × List MemPlace}, DataW.trod enc Try.prog W 0 sp true fuel 22 [c] = some x → ∃ a len cap, c = .slice a len cap := fun {fuel c x} h => by
          rcases open_ints Try.underlying22 Try.underlying2 (by kernel_rfl) h with ⟨hcs, _⟩ | ⟨ad, l, c', zs, hcs, _⟩
          · simp only [List.cons.injEq, and_true] at hcs
            exact ⟨_, _, _, hcs⟩
          · simp only [List.cons.injEq, and_true] at hcs
            exact ⟨_, _, _, hcs⟩
        obtain ⟨a0, l0, p0, rfl⟩ := sl g0
        obtain ⟨a1, l1, p1, rfl⟩ := sl h1
        obtain ⟨a3, l3, p3, rfl⟩ := sl h3
        obtain ⟨S, hl0, k0, i0⟩ := row_ints rfl g0
        obtain ⟨C, hl1, k1, i1⟩ := row_ints rfl h1
        obtain ⟨T, hl3, k3, i3⟩ := row_ints rfl h3
        subst hl0 hl1 hl3
        exact ⟨a0, S, p0, a1, C, p1, m1, m2, m3, m4, a3, T, p3, by rw [e1, e2, e3, e4], k0, k1, k3, i0, i1, i3⟩

end Go.Proofs.Ytgaelpcghljihaa

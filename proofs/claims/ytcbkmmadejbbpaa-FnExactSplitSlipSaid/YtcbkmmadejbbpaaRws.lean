/-
  Lists of slips that a call made: each row in a block of its own; compared, marked, held. By an AI agent.
-/
import Derived.Test.YtcbkmmadejbbpaaMathU
import Derived.Test.YtcbkmmadejbbpaaHelpS
import Derived.Test.YtcbkmmadejbbpaaAppendAt
import Derived.Deep.RegionHeld3
namespace Go.Proofs.Ytcbkmmadejbbpaa
open Go.RowKit Cv
set_option linter.unusedVariables false
set_option linter.unusedSimpArgs false
set_option maxRecDepth 100000

/-- row i -/
def rr (R : List (List Int)) (i : Nat) : List Int := R.getD i []
theorem rr_set (R : List (List Int)) (L : List Int) (i j : Nat) (h : i < R.length) : rr (R.set i L) j = if j = i then L else rr R j := by
  unfold rr
  simp only [List.getD, List.getElem?_set]
  by_cases e : i = j
  · subst e; simp [h]
  · rw [if_neg e, if_neg (fun g => e g.symm)]
theorem rr_app (R : List (List Int)) (L : List Int) (j : Nat) (h : j < R.length + 1) : rr (R ++ [L]) j = if j = R.length then L else rr R j := by
  unfold rr
  simp only [List.getD]
  by_cases e : j = R.length
  · subst e; simp
  · rw [if_neg e, List.getElem?_append_left (by omega)]
theorem rr_ext {R Q : List (List Int)} (h : R.length = Q.length) (g : ∀ i, i < R.length → rr R i = rr Q i) : R = Q := by
  refine List.ext_getElem h fun i h1 h2 => ?_
  have := g i h1
  simpa [rr, List.getD, List.getElem?_eq_getElem h1, List.getElem?_eq_getElem h2] using this

def RwsAt (w : World) (lo hi : Nat) (v : Value) (R : List (List Int)) (hs : List Value) : Prop :=
  hs.length = R.length ∧ w.ownsRow lo 51 1 v R.length hs ∧ (∀ k, v.ownBlock = some k → k < hi) ∧
    (∀ i, i < R.length → ∃ h, hs[i]? = some h ∧ OwnInts w lo h (rr R i) ∧ (h.ownBlock = none ∨ h.ownBlock ≠ v.ownBlock) ∧ ∀ k, h.ownBlock = some k → k < hi) ∧
    ∀ (i j : Nat) (h h' : Value), i ≠ j → hs[i]? = some h → hs[j]? = some h' → h.ownBlock = none ∨ h.ownBlock ≠ h'.ownBlock
def OwnRws (w : World) (lo hi : Nat) (v : Value) (R : List (List Int)) : Prop := ∃ hs : List Value, RwsAt w lo hi v R hs

theorem row_belowB {B : Nat} {w w' : World} {base n : Nat} {e : TypeId} {v : Value} {xs : List Value} (h : w.ownsRow base e 1 v n xs) (hv : ∀ k, v.ownBlock = some k → k < B) (hb : Below B w w') : w'.ownsRow base e 1 v n xs := by
  obtain ⟨h1, h2⟩ := h
  refine ⟨h1, ?_⟩
  rcases h2 with h2 | ⟨g, cap, cur, rfl, hg, hh, r⟩
  · exact Or.inl h2
  · exact Or.inr ⟨g, cap, cur, rfl, hg, by rw [hb.block g (hv g rfl)]; exact hh, r⟩
theorem OwnInts.belowB {B : Nat} {w w' : World} {base : Nat} {v : Value} {T : List Int} (h : OwnInts w base v T) (hv : ∀ k, v.ownBlock = some k → k < B) (hb : Below B w w') : OwnInts w' base v T := row_belowB h hv hb
theorem OwnRws.belowB {B : Nat} {w w' : World} {lo hi : Nat} {v : Value} {R : List (List Int)} (h : OwnRws w lo hi v R) (hB : hi ≤ B) (hb : Below B w w') : OwnRws w' lo hi v R := by
  obtain ⟨hs, h1, h2, h3, h4, h5⟩ := h
  refine ⟨hs, h1, row_belowB h2 (fun k hk => by have := h3 k hk; omega) hb, h3, fun i hi => ?_, h5⟩
  obtain ⟨x, hx, ho, hn, hk⟩ := h4 i hi
  exact ⟨x, hx, ho.belowB (fun k e => by have := hk k e; omega) hb, hn, hk⟩
theorem OwnRws.below {w w' : World} {lo hi : Nat} {v : Value} {R : List (List Int)} (h : OwnRws w lo hi v R) (hb : Below w.heap.size w w') : OwnRws w' lo hi v R := by
  obtain ⟨hs, h1, h2, h3, h4, h5⟩ := h
  refine ⟨hs, h1, row_belowB h2 (fun k hk => (World.ownsRow.lt h2 k hk).2) hb, h3, fun i hi => ?_, h5⟩
  obtain ⟨x, hx, ho, hn, hk⟩ := h4 i hi
  exact ⟨x, hx, ho.below hb, hn, hk⟩
theorem OwnRws.kept {w w' : World} {lo hi : Nat} {v : Value} {R : List (List Int)} {b : Option Nat} (h : OwnRws w lo hi v R) (hg : w.grownBy w' b) (hb : ∀ k, b = some k → k < lo ∨ hi ≤ k) : OwnRws w' lo hi v R := by
  obtain ⟨hs, h1, h2, h3, h4, h5⟩ := h
  have ne : ∀ z : Value, (∀ k, z.ownBlock = some k → lo ≤ k ∧ k < hi) → z.ownBlock = none ∨ z.ownBlock ≠ b := fun z hz => by
    cases hv : z.ownBlock with
    | none => exact .inl rfl
    | some k =>
      refine .inr fun e => ?_
      have := hz k hv
      have := hb k e.symm
      omega
  refine ⟨hs, h1, World.ownsRow.kept h2 hg (ne v fun k hk => ⟨(World.ownsRow.lt h2 k hk).1, h3 k hk⟩), h3, fun i hi => ?_, h5⟩
  obtain ⟨x, hx, ho, hn, hk⟩ := h4 i hi
  exact ⟨x, hx, World.ownsRow.kept ho hg (ne x fun k e => ⟨(World.ownsRow.lt ho k e).1, hk k e⟩), hn, hk⟩
theorem OwnRws.alloc {w : World} {lo hi : Nat} {v : Value} {R : List (List Int)} (h : OwnRws w lo hi v R) (o : Obj) : OwnRws (w.alloc o) lo hi v R := h.below ((Below.refl _ w).alloc (Nat.le_refl _) o)
theorem rws_apart {v : Value} {lo hi lo' hi' : Nat} (R : RowIn v lo' hi') (h : hi' ≤ lo ∨ hi ≤ lo') : ∀ k, v.ownBlock = some k → k < lo ∨ hi ≤ k := fun k hk => by have := R k hk; omega
theorem rws_under {v : Value} {lo hi B : Nat} (R : RowIn v lo hi) (h : hi ≤ B) : ∀ k, v.ownBlock = some k → k < B := fun k hk => by have := R k hk; omega
theorem row_rebase {w : World} {base base' n : Nat} {e : TypeId} {v : Value} {xs : List Value} (h : w.ownsRow base e 1 v n xs) (hb : base' ≤ base) : w.ownsRow base' e 1 v n xs := by
  obtain ⟨h1, h2⟩ := h
  refine ⟨h1, ?_⟩
  rcases h2 with h2 | ⟨g, cap, cur, hv, hg, r⟩
  · exact Or.inl h2
  · exact Or.inr ⟨g, cap, cur, hv, by omega, r⟩
theorem OwnRws.rebase {w : World} {lo hi lo' hi' : Nat} {v : Value} {R : List (List Int)} (h : OwnRws w lo hi v R) (h1 : lo' ≤ lo) (h2 : hi ≤ hi') : OwnRws w lo' hi' v R := by
  obtain ⟨hs, e1, e2, e3, e4, e5⟩ := h
  refine ⟨hs, e1, row_rebase e2 h1, fun k hk => by have := e3 k hk; omega, fun i hi => ?_, e5⟩
  obtain ⟨x, hx, ho, hn, hk⟩ := e4 i hi
  exact ⟨x, hx, ho.rebase h1, hn, fun k e => by have := hk k e; omega⟩
/-- the blocks lie below the heap's size -/
theorem OwnRws.top {w : World} {lo hi : Nat} {v : Value} {R : List (List Int)} (h : OwnRws w lo hi v R) : OwnRws w lo w.heap.size v R := by
  obtain ⟨hs, e1, e2, e3, e4, e5⟩ := h
  refine ⟨hs, e1, e2, fun k hk => (World.ownsRow.lt e2 k hk).2, fun i hi => ?_, e5⟩
  obtain ⟨x, hx, ho, hn, hk⟩ := e4 i hi
  exact ⟨x, hx, ho, hn, fun k e => (World.ownsRow.lt ho k e).2⟩
theorem OwnRws.nil (w : World) (lo hi : Nat) : OwnRws w lo hi (.slice none 0 0) [] :=
  ⟨[], rfl, World.ownsRow_nil _ _ _ _, fun k hk => by simp [Value.ownBlock] at hk, fun i hi => by simp at hi, fun i j h h' _ hi => by simp at hi⟩
theorem OwnRws.empty (w : World) (lo : Nat) (h : lo ≤ w.heap.size) {n : Nat} (hn : n = w.heap.size) : OwnRws (w.alloc (.cells #[] 51)) lo (w.heap.size + 1) (.slice (some ⟨n, 0, none⟩) 0 0) [] := by
  subst hn
  exact ⟨[], rfl, World.ownsRow_made w #[] 0 h (by simp [maxLen]) (by simp), fun k hk => by simp [Value.ownBlock] at hk; omega, fun i hi => by simp at hi, fun i j h h' _ hi => by simp at hi⟩
theorem OwnRws.shape {w : World} {lo hi : Nat} {v : Value} {R : List (List Int)} (h : OwnRws w lo hi v R) : ∃ a c, v = .slice a R.length c := by
  obtain ⟨hs, e1, e2, e3, e4, e5⟩ := h
  rcases e2.2 with ⟨hv, hn⟩ | ⟨g, cap, cur, hv, _⟩
  · exact ⟨none, 0, by rw [hn]; exact hv⟩
  · exact ⟨_, _, hv⟩
/-- the row at an index, and what stays when it is written -/
theorem OwnRws.at {w : World} {lo hi n c : Nat} {a : Option Addr} {R : List (List Int)} (h : OwnRws w lo hi (.slice a n c) R) {i : Nat} (hlt : i < R.length) :
    ∃ g z, a = some ⟨g, 0, none⟩ ∧ g < w.heap.size ∧ w.cell? ⟨g, i, none⟩ = some z ∧ OwnInts w lo z (rr R i) ∧ (∀ k, z.ownBlock = some k → lo ≤ k) ∧
      ∀ w' L, OwnInts w' lo z L → w.grownBy w' z.ownBlock → OwnRws w' lo hi (.slice a n c) (R.set i L) := by
  obtain ⟨hs, e1, e2, e3, e4, e5⟩ := h
  obtain ⟨z, hz, ho, hn, hk⟩ := e4 i hlt
  rcases e2.2 with ⟨_, h0⟩ | ⟨g, cap, cur, hv, _⟩
  · omega
  · simp only [Value.slice.injEq] at hv
    obtain ⟨rfl, rfl, rfl⟩ := hv
    have hcell : w.cell? ⟨g, i, none⟩ = some z := by rw [e2.cellAt i (by omega)]; exact hz
    refine ⟨g, z, rfl, (World.ownsRow.lt e2 g rfl).2, hcell, ho, fun k e => (World.ownsRow.lt ho k e).1, fun w' L h1 h2 => ?_⟩
    have hlen : R.length = (R.set i L).length := by simp
    have hne : (Value.slice (some ⟨g, 0, none⟩) R.length c).ownBlock = none ∨ (Value.slice (some ⟨g, 0, none⟩) R.length c).ownBlock ≠ z.ownBlock := .inr fun e => by
      rcases hn with h | h
      · rw [h] at e; simp [Value.ownBlock] at e
      · exact h e.symm
    have e2' := World.ownsRow.kept e2 h2 hne
    refine ⟨hs, by rw [← hlen]; exact e1, by rw [← hlen]; exact e2', e3, fun j hj => ?_, e5⟩
    · rw [← hlen] at hj
      by_cases e : j = i
      · subst e
        exact ⟨z, hz, by rw [rr_set R L j j hj, if_pos rfl]; exact h1, hn, hk⟩
      · obtain ⟨y, hy, hoy, hny, hky⟩ := e4 j hj
        refine ⟨y, hy, by rw [rr_set R L i j hlt, if_neg e]; exact World.ownsRow.kept hoy h2 (e5 j i y z e hy hz), hny, hky⟩

def offR (R : List (List Int)) : Nat → Nat
  | 0 => 0
  | i + 1 => offR R i + (rr R i).length
theorem offR_le (R : List (List Int)) (h : ∀ i, (rr R i).length ≤ 4096) (i : Nat) : offR R i ≤ 4096 * i := by
  induction i with
  | zero => exact Nat.le_refl _
  | succ i ih => have := h i; rw [offR]; omega
def mkR (k0 : Int) (R : List (List Int)) : List (List Int) := (List.range R.length).map fun i => marks (k0 + offR R i) (rr R i).length
theorem mkR_len (k0 : Int) (R : List (List Int)) : (mkR k0 R).length = R.length := by simp [mkR]
theorem rr_mkR (k0 : Int) (R : List (List Int)) (i : Nat) (h : i < R.length) : rr (mkR k0 R) i = marks (k0 + offR R i) (rr R i).length := by
  simp [rr, mkR, List.getD, h]

set_option maxHeartbeats 1000000 in
theorem eqSlipS_same (a a' : Option Addr) (c c' lo hi lo' hi' : Nat) (R : List (List Int)) (w : World) (hR : R.length ≤ 4096 ∧ ∀ i, (rr R i).length ≤ 4096) (h : OwnRws w lo hi (.slice a R.length c) R) (h' : OwnRws w lo' hi' (.slice a' R.length c') R) :
    Calls Try.prog 38 #[.slice a R.length c, .slice a' R.length c'] w fun e w' => e = .returned (.bool true) ∧ Below w.heap.size w w' := by
  obtain ⟨hl, hr⟩ := hR
  have HR := Lib.hid hr
  clear hr
  go_enter Try.func38, Try.ntmps38
  go_wp2_with fail
  go_loopw [5] (fun i wr => ∃ k : Nat, k ≤ R.length ∧ i = .int .i64 k ∧ Below w.heap.size w wr) (fun i _ => R.length - (intOf i).toNat)
  case atStart => exact ⟨0, Nat.zero_le _, rfl, Below.refl _ _⟩
  case round =>
    obtain ⟨k, hk, rfl, B⟩ := hrel
    by_cases hlt : k < R.length
    · obtain ⟨g, z, rfl, hg, hc, ho, _⟩ := h.at hlt
      obtain ⟨g', z', rfl, hg', hc', ho', _⟩ := h'.at hlt
      replace hc := kept_cell B hc hg
      replace hc' := kept_cell B hc' hg'
      obtain ⟨az, cz, hz, hI⟩ := ho.ints
      obtain ⟨az', cz', hz', hI'⟩ := ho'.ints
      subst hz
      subst hz'
      have hL := HR.out k
      obtain ⟨L, hLe⟩ : ∃ L, L = rr R k := ⟨_, rfl⟩
      rw [← hLe] at hc hc' hI hI' hL
      have hgw : g < wr.heap.size := Nat.lt_of_lt_of_le hg B.size
      have hgw' : g' < wr.heap.size := Nat.lt_of_lt_of_le hg' B.size
      have i1 : (0 : Int) ≤ (k : Int) := by omega
      have i2 : (k : Int) < (R.length : Int) := by omega
      clear ho ho' hLe
      go_wp2_with fail
      go_region_held3 (fun w' => w'.cell? ⟨g, k, none⟩ = some (.slice az L.length cz) ∧ w'.cell? ⟨g', k, none⟩ = some (.slice az' L.length cz')) (first | exact ⟨hc, hc'⟩ | exact ⟨kept_cell hb hc hgw, kept_cell hb hc' hgw'⟩) ((go_at_call 39; refine (eqSlip_same az az' L cz cz' _ (by omega) (hI.below B.drew) (hI'.below B.drew)).mono ?_; rintro e w4 ⟨rfl, hb'⟩; have hb : Below wr.heap.size wr w4 := (Below.refl wr.heap.size wr).drew.trans hb'))
      replace B := B.trans (hb.mono B.size)
      clear hb hb' hc hc'
      go_wp2_with fail
      go_roundw
      case rel => exact ⟨k + 1, by omega, by go_num, B⟩
      case measure => simp [intOf]; omega
    · go_wp2_with fail
      go_ret
      exact ⟨rfl, B⟩

set_option maxHeartbeats 1000000 in
theorem markSlipS_own (a : Option Addr) (c lo hi : Nat) (R : List (List Int)) (k0 : Int) (w : World) (hR : R.length ≤ 4096 ∧ ∀ i, (rr R i).length ≤ 4096) (h0 : 0 ≤ k0) (h1 : k0 ≤ 2147483648) (hlo : lo ≤ w.heap.size) (h : OwnRws w lo hi (.slice a R.length c) R) :
    Calls Try.prog 41 #[.slice a R.length c, .int .i64 k0] w fun e w' => e = .returned (.int .i64 (k0 + (offR R R.length : Nat))) ∧ OwnRws w' lo hi (.slice a R.length c) (mkR k0 R) ∧ Below lo w w' := by
  obtain ⟨hl, hr⟩ := hR
  have HR := Lib.hid hr
  have HO := Lib.hid (offR_le R hr)
  clear hr
  go_enter Try.func41, Try.ntmps41
  go_wp2_with fail
  go_loopw [1, 5] (fun q i wr => ∃ (k : Nat) (Q : List (List Int)), k ≤ R.length ∧ i = .int .i64 k ∧ q = .int .i64 (k0 + (offR R k : Nat)) ∧ OwnRws wr lo hi (.slice a R.length c) Q ∧ Hid (Q.length = R.length ∧ (∀ j, j < k → rr Q j = rr (mkR k0 R) j) ∧ ∀ j, k ≤ j → rr Q j = rr R j) ∧ lo ≤ wr.heap.size ∧ Below lo w wr) (fun _ i _ => R.length - (intOf i).toNat)
  case atStart => exact ⟨0, R, Nat.zero_le _, rfl, by simp [offR], h, Lib.hid ⟨rfl, fun j hj => by omega, fun j _ => rfl⟩, hlo, Below.refl _ _⟩
  case round =>
    clear h
    obtain ⟨k, Q, hk, rfl, rfl, h, HQ, hlw, B⟩ := hrel
    have ho1 := HO.out k
    by_cases hlt : k < R.length
    · obtain ⟨g, z, rfl, hg, hc, ho, hzb, hset⟩ := h.at (i := k) (by rw [HQ.out.1]; exact hlt)
      rw [HQ.out.2.2 k (Nat.le_refl _)] at ho
      obtain ⟨az, cz, hz, _⟩ := ho.ints
      subst hz
      have hL := HR.out k
      have HM := Lib.hid (rr_mkR k0 R k hlt)
      have HS : Hid (offR R (k + 1) = offR R k + (rr R k).length) := Lib.hid rfl
      obtain ⟨L, hLe⟩ : ∃ L, L = rr R k := ⟨_, rfl⟩
      rw [← hLe] at hc ho hL HM HS hset hzb
      have HLe := Lib.hid hLe
      obtain ⟨o, hoe⟩ : ∃ o, o = offR R k := ⟨_, rfl⟩
      rw [← hoe] at ho1 HM HS ⊢
      clear hLe hoe
      go_wp2_with fail
      refine (markSlip_own az lo cz L.length L (k0 + (o : Nat)) _ (by omega) (by omega) (by omega) rfl ho).mono ?_
      rintro e w4 ⟨rfl, ho4, hg4⟩
      have h4 := hset w4 _ ho4 hg4
      have B4 : Below lo w w4 := B.grown hg4 hlw fun q hq => hzb q hq
      have hs4 := hg4.size
      clear ho hset ho4 hg4 hc hzb B
      go_wp2_with fail
      go_roundw
      case rel =>
        refine ⟨k + 1, _, by omega, by go_num, by rw [HS.out]; go_num, h4, Lib.hid ⟨by rw [List.length_set]; exact HQ.out.1, fun j hj => ?_, fun j hj => ?_⟩, Nat.le_trans hlw hs4, B4⟩
        · rw [rr_set _ _ _ _ (by rw [HQ.out.1]; exact hlt)]
          by_cases e : j = k
          · subst e; rw [if_pos rfl, HM.out]
          · rw [if_neg e]; exact HQ.out.2.1 j (by omega)
        · rw [rr_set _ _ _ _ (by rw [HQ.out.1]; exact hlt), if_neg (by omega)]; exact HQ.out.2.2 j (by omega)
      case measure => simp [intOf]; omega
    · have ek : Hid (k = R.length) := Lib.hid (by omega)
      have HE : Hid (Q = mkR k0 R) := Lib.hid (rr_ext (by rw [HQ.out.1, mkR_len]) fun j hj => HQ.out.2.1 j (by rw [HQ.out.1] at hj; omega))
      go_wp2_with fail
      go_ret
      exact ⟨ret_int (by rw [ek.out]), by rw [← HE.out]; exact h, B⟩

set_option maxHeartbeats 1000000 in
theorem heldSlipS_any (a : Option Addr) (c lo hi : Nat) (R : List (List Int)) (k0 : Int) (w : World) (hR : R.length ≤ 4096 ∧ ∀ i, (rr R i).length ≤ 4096) (h0 : 0 ≤ k0) (h1 : k0 ≤ 2147483648) (h : OwnRws w lo hi (.slice a R.length c) (mkR k0 R)) :
    Calls Try.prog 42 #[.slice a R.length c, .int .i64 k0] w fun e w' => e = .returned (.int .i64 (k0 + (offR R R.length : Nat))) ∧ w = w' := by
  obtain ⟨hl, hr⟩ := hR
  have HR := Lib.hid hr
  have HO := Lib.hid (offR_le R hr)
  clear hr
  go_enter Try.func42, Try.ntmps42
  go_wp2_with fail
  go_loop [1, 5] (fun q i => ∃ k : Nat, k ≤ R.length ∧ i = .int .i64 k ∧ q = .int .i64 (k0 + (offR R k : Nat))) (fun _ i => R.length - (intOf i).toNat)
  case atStart => exact ⟨0, Nat.zero_le _, rfl, by simp [offR]⟩
  case round =>
    obtain ⟨k, hk, rfl, rfl⟩ := hrel
    have ho1 := HO.out k
    by_cases hlt : k < R.length
    · obtain ⟨g, z, rfl, hg, hc, ho, hzb, hset⟩ := h.at (i := k) (by rw [mkR_len]; exact hlt)
      rw [rr_mkR k0 R k hlt] at ho
      obtain ⟨az, cz, hz, hI⟩ := ho.ints
      subst hz
      have hL := HR.out k
      have HS : Hid (offR R (k + 1) = offR R k + (rr R k).length) := Lib.hid rfl
      obtain ⟨n, hn⟩ : ∃ n, n = (rr R k).length := ⟨_, rfl⟩
      rw [marks_length] at hc
      rw [← hn] at hc hI hL HS
      obtain ⟨o, hoe⟩ : ∃ o, o = offR R k := ⟨_, rfl⟩
      rw [← hoe] at ho1 hI HS ⊢
      clear hn hoe ho hset hzb
      go_wp2_with fail
      refine (heldSlip_any az cz n (k0 + (o : Nat)) _ (by omega) (by omega) (by omega) hI).mono ?_
      rintro e w4 ⟨rfl, rfl⟩
      go_wp2_with fail
      go_round
      case rel => exact ⟨k + 1, by omega, by go_num, by rw [HS.out]; go_num⟩
      case measure => simp [intOf]; omega
    · have ek : Hid (k = R.length) := Lib.hid (by omega)
      go_wp2_with fail
      go_ret
      exact ⟨ret_int (by rw [ek.out]), rfl⟩

end Go.Proofs.Ytcbkmmadejbbpaa

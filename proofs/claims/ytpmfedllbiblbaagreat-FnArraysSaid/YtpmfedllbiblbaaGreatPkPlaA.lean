/-
  Merged texts: Lol10, Plc10, Dgs10. Never import this beside one of them. By an AI agent.
-/
import Derived.Test.YtpmfedllbiblbaaGreatPkMch0
import Derived.Test.YtpmfedllbiblbaaGreatPkRwc
import Derived.Test.YtpmfedllbiblbaaGreatPkPut
import Derived.Test.YtpmfedllbiblbaaGreatPkParts
import Derived.Deep.AppendLies
import Derived.Deep.RegionHeld3
namespace Go.Proofs.YtpmfedllbiblbaaGreat
open Go.RowKit Cv
set_option linter.unusedVariables false
set_option linter.unusedSimpArgs false
set_option maxRecDepth 100000

/-- lists that calls made, none of them nil, in a list that a call made -/
def LsAt (w : World) (lo : Nat) (v : Value) (R : List (List Int)) : Prop :=
  ∃ hs : List Value, hs.length = R.length ∧ w.ownsRow lo 24 1 v R.length hs ∧ ∀ i, i < R.length → ∃ g c, hs[i]? = some (.slice (some ⟨g, 0, none⟩) (rr R i).length c) ∧ OwnInts w lo (.slice (some ⟨g, 0, none⟩) (rr R i).length c) (rr R i)
theorem ls_row {w w' : World} {base n : Nat} {e : TypeId} {v : Value} {xs : List Value} (h : w.ownsRow base e 1 v n xs) (hb : Below w.heap.size w w') : w'.ownsRow base e 1 v n xs := by
  obtain ⟨h1, h2⟩ := h
  refine ⟨h1, ?_⟩
  rcases h2 with h2 | ⟨g, cap, cur, hv, hg, hh, r⟩
  · exact Or.inl h2
  · exact Or.inr ⟨g, cap, cur, hv, hg, by rw [hb.block g (Array.getElem?_eq_some_iff.1 hh).1]; exact hh, r⟩
theorem LsAt.below {w w' : World} {lo : Nat} {v : Value} {R : List (List Int)} (h : LsAt w lo v R) (hb : Below w.heap.size w w') : LsAt w' lo v R := by
  obtain ⟨hs, h1, h2, h3⟩ := h
  refine ⟨hs, h1, ls_row h2 hb, fun i hi => ?_⟩
  obtain ⟨g, c, hx, ho⟩ := h3 i hi
  exact ⟨g, c, hx, ho.below hb⟩
theorem LsAt.alloc {w : World} {lo : Nat} {v : Value} {R : List (List Int)} (h : LsAt w lo v R) (o : Obj) : LsAt (w.alloc o) lo v R := h.below ((Below.refl _ w).alloc (Nat.le_refl _) o)
theorem LsAt.rebase {w : World} {lo lo' : Nat} {v : Value} {R : List (List Int)} (h : LsAt w lo v R) (hl : lo' ≤ lo) : LsAt w lo' v R := by
  obtain ⟨hs, h1, h2, h3⟩ := h
  refine ⟨hs, h1, row_rebase h2 hl, fun i hi => ?_⟩
  obtain ⟨g, c, hx, ho⟩ := h3 i hi
  exact ⟨g, c, hx, ho.rebase hl⟩
theorem LsAt.empty (w : World) (lo : Nat) (h : lo ≤ w.heap.size) {n : Nat} (hn : n = w.heap.size) : LsAt (w.alloc (.cells #[] 24)) lo (.slice (some ⟨n, 0, none⟩) 0 0) [] := by
  subst hn
  exact ⟨[], rfl, World.ownsRow_made w #[] 0 h (by simp [maxLen]) (by simp), fun i hi => by simp at hi⟩
theorem LsAt.shape {w : World} {lo : Nat} {v : Value} {R : List (List Int)} (h : LsAt w lo v R) : ∃ a c, v = .slice a R.length c := by
  obtain ⟨hs, e1, e2, e3⟩ := h
  rcases e2.2 with ⟨hv, hn⟩ | ⟨g, cap, cur, hv, _⟩
  · exact ⟨none, 0, by rw [hn]; exact hv⟩
  · exact ⟨_, _, hv⟩
theorem LsAt.lo_le {w : World} {lo : Nat} {v : Value} {R : List (List Int)} (h : LsAt w lo v R) : ∀ k, v.ownBlock = some k → lo ≤ k ∧ k < w.heap.size := by
  obtain ⟨hs, e1, e2, _⟩ := h
  exact World.ownsRow.lt e2
/-- the list at an index -/
theorem LsAt.at {w : World} {lo n c : Nat} {a : Option Addr} {R : List (List Int)} (h : LsAt w lo (.slice a n c) R) {i : Nat} (hlt : i < R.length) :
    ∃ g gi' ci, a = some ⟨g, 0, none⟩ ∧ g < w.heap.size ∧ w.cell? ⟨g, i, none⟩ = some (.slice (some ⟨gi', 0, none⟩) (rr R i).length ci) ∧ OwnInts w lo (.slice (some ⟨gi', 0, none⟩) (rr R i).length ci) (rr R i) := by
  obtain ⟨hs, e1, e2, e4⟩ := h
  obtain ⟨gi', ci, hz, ho⟩ := e4 i hlt
  rcases e2.2 with ⟨_, h0⟩ | ⟨g, cap, cur, hv, _⟩
  · omega
  · simp only [Value.slice.injEq] at hv
    obtain ⟨rfl, rfl, rfl⟩ := hv
    exact ⟨g, gi', ci, rfl, (World.ownsRow.lt e2 g rfl).2, by rw [e2.cellAt i (by omega)]; exact hz, ho⟩
theorem LsAt.rd {w : World} {lo : Nat} {v : Value} {R : List (List Int)} (h : LsAt w lo v R) : RdRws w lo w.heap.size v R := by
  obtain ⟨hs, e1, e2, e3⟩ := h
  refine ⟨hs, e1, e2, fun k hk => (World.ownsRow.lt e2 k hk).2, fun i hi => ?_⟩
  obtain ⟨g, c, hx, ho⟩ := e3 i hi
  exact ⟨_, hx, ho, fun k hk => (World.ownsRow.lt ho k hk).2⟩
theorem ls_apart {w : World} {lo lo' n : Nat} {v z : Value} {hs : List Value} {T : List Int} (h2 : w.ownsRow lo' 24 1 v n hs) (ho : OwnInts w lo z T) : z.ownBlock = none ∨ z.ownBlock ≠ v.ownBlock := by
  rcases ho.2 with ⟨hz, _⟩ | ⟨g, cap, cur, hz, _, hh, _⟩
  · exact .inl (by rw [hz]; rfl)
  · rcases h2.2 with ⟨hv, _⟩ | ⟨g', cap', cur', hv, _, hh', _⟩
    · refine .inr (fun e => ?_)
      rw [hz, hv] at e
      simp [Value.ownBlock] at e
    · refine .inr fun e => ?_
      rw [hz, hv] at e
      have e' : g = g' := Option.some.inj e
      subst e'
      rw [hh] at hh'
      simp at hh'
/-- lists stay where another list of lists is written -/
theorem LsAt.kept2 {w w' : World} {lo lo' : Nat} {v v' : Value} {R R' : List (List Int)} (h : LsAt w lo v R) (h' : LsAt w lo' v' R') (hg : w.grownBy w' v'.ownBlock) (hne : v.ownBlock = none ∨ v.ownBlock ≠ v'.ownBlock) : LsAt w' lo v R := by
  obtain ⟨hs, h1, h2, h3⟩ := h
  obtain ⟨hs', _, e2, _⟩ := h'
  refine ⟨hs, h1, World.ownsRow.kept h2 hg hne, fun i hi => ?_⟩
  obtain ⟨g, c, hx, ho⟩ := h3 i hi
  exact ⟨g, c, hx, World.ownsRow.kept ho hg (ls_apart e2 ho)⟩
/-- an append of one more list -/
theorem wpList_append_ls {w : World} {ops : Array Oper} {rest : List Oper} {o : Oper} {a : Act} {Q : Exit → Act → World → Prop} (hgd : o.guard = none) (s x : Operand)
    (ho : o.op = .call { callee := .builtin .append, args := #[s, x], argTypes := #[32, 32] })
    (lo : Nat) (v : Value) (R : List (List Int)) (hs : a.eval s = v) (hown : LsAt w lo v R) (b g c n : Nat) (L : List Int) (hn : n = L.length) (hy : OwnInts w lo (.slice (some ⟨g, 0, none⟩) n c) L) (hx : a.eval x = .slice (some ⟨b, 0, none⟩) 1 1) (hc : w.cell? ⟨b, 0, none⟩ = some (.slice (some ⟨g, 0, none⟩) n c))
    (hlen : R.length ≤ 1073741824) (hbase : lo ≤ w.heap.size)
    (h : ∀ g' c' w', LsAt w' lo (.slice (some ⟨g', 0, none⟩) (R.length + 1) c') (R ++ [L]) → w.grownBy w' v.ownBlock → (v.ownBlock = some g' ∨ g' = w.heap.size) → wpList Tryz.prog ops Q rest (a.put o.dst (.slice (some ⟨g', 0, none⟩) (R.length + 1) c')) w') : wpList Tryz.prog ops Q (o :: rest) a w := by
  subst hn
  obtain ⟨i0, hi0, hz0, hz1, hz2⟩ := info_parts infoSl
  obtain ⟨hl, e1, e2, e4⟩ := hown
  refine wpList_append_own_at w hgd s x 32 ho lo 24 i0 (.slice none 0 0) 1 24 Tryz.underlying32 hi0 hz0 hz1 hz2 rfl (by decide) v R.length hl hs e2 ⟨b, 0, none⟩ 1 1 [.slice (some ⟨g, 0, none⟩) L.length c] hx rfl ?_ ?_ (by unfold maxLen; omega) (by omega) hbase ?_
  · intro j u hj
    match j, hj with
    | 0, hj => simp at hj; subst hj; simpa [Addr.add] using hc
  · intro u hu; simp at hu; subst hu; rfl
  · intro v' w' h1 h2 _ h3
    have hrow : w'.ownsRow lo 24 1 v' (R ++ [L]).length (hl ++ [.slice (some ⟨g, 0, none⟩) L.length c]) := by rw [List.length_append]; exact h1
    have hls : LsAt w' lo v' (R ++ [L]) := by
      refine ⟨_, by simp [e1], hrow, fun i hi => ?_⟩
      rw [List.length_append] at hi
      have hi' : i < R.length + 1 := by simpa using hi
      by_cases hlt : i < R.length
      · obtain ⟨g2, c2, hz, ho2⟩ := e4 i hlt
        have er : rr (R ++ [L]) i = rr R i := by rw [rr_app R L i hi', if_neg (by omega)]
        rw [er]
        exact ⟨g2, c2, by rw [List.getElem?_append_left (by omega)]; exact hz, World.ownsRow.kept ho2 h2 (ls_apart e2 ho2)⟩
      · have ei : i = R.length := by omega
        subst ei
        have er : rr (R ++ [L]) R.length = L := by rw [rr_app R L _ hi', if_pos rfl]
        rw [er]
        exact ⟨g, c, by rw [List.getElem?_append_right (by omega), e1]; simp, World.ownsRow.kept hy h2 (ls_apart e2 hy)⟩
    rcases hrow.2 with ⟨_, hn⟩ | ⟨g', c', cur, hv, _⟩
    · simp at hn
    · have hl1 : (R ++ [L]).length = R.length + 1 := by simp
      rw [hl1] at hv
      subst hv
      exact h g' c' w' hls h2 (by
        rcases h3 with e | e
        · exact .inl e.symm
        · exact .inr (Option.some.inj e))
/-- an append of a list, as an operation of a region that draws its order -/
theorem wp_append_intsL {w : World} {o : Oper} {a : Act} {K : Act → World → Prop} {Q : Exit → Act → World → Prop} (s x : Operand)
    (ho : o.op = .call { callee := .builtin .append, args := #[s, x], argTypes := #[24, 24] })
    (base : Nat) (v : Value) (L : List Int) (hs : a.eval s = v) (hown : OwnInts w base v L) (ad : Addr) (T : List Int) (m c n : Nat) (hm : m = T.length) (h0 : 0 < m) (hx : a.eval x = .slice (some ad) m c) (hT : Ints w (some ad) T)
    (hlen : L.length + m ≤ 1073741824) (hbase : base ≤ w.heap.size) (hn : n = L.length + m)
    (h : ∀ g cap w', OwnInts w' base (.slice (some ⟨g, 0, none⟩) n cap) (L ++ T) → w.grownBy w' v.ownBlock → (v.ownBlock = some g ∨ g = w.heap.size) → K (a.put o.dst (.slice (some ⟨g, 0, none⟩) n cap)) w') : o.wp Tryz.prog a w K Q := by
  subst hn
  subst hm
  obtain ⟨i0, hi, hz0, hz1, hz2⟩ := info_parts infoI64
  refine wp_append_lies w s x 24 ho base 2 i0 (.int .i64 0) 1 8 Tryz.underlying24 hi hz0 hz1 hz2 rfl (by decide) v L.length (L.map (Value.int .i64)) hs hown ad T.length c (T.map (Value.int .i64)) hx (by simp) ?_ ?_ h0 (by unfold maxLen; omega) (by omega) hbase _ rfl ?_
  · intro j u hj
    have hlt : j < T.length := by
      have := (List.getElem?_eq_some_iff.1 hj).1
      simpa using this
    obtain ⟨b, o', he, _, hc⟩ := hT.at hlt
    obtain rfl : ad = ⟨b, o', none⟩ := by simpa using he
    rw [gi_map T j hlt] at hj
    have := hc j hlt
    simp only [Option.some.injEq] at hj
    subst hj
    by_cases e : j = 0
    · subst e; simpa [Addr.add] using this
    · simpa [Addr.add, e] using this
  · intro u hu
    obtain ⟨y, _, rfl⟩ := List.mem_map.1 hu
    rfl
  · intro g cap w' h1 h2 h3 _
    refine h g cap w' ?_ h2 h3
    unfold OwnInts
    rw [List.length_append, List.map_append]
    exact h1
/-- an append of one more list, as an operation of a region that draws its order -/
theorem wp_append_lsL {w : World} {o : Oper} {a : Act} {K : Act → World → Prop} {Q : Exit → Act → World → Prop} (s x : Operand)
    (ho : o.op = .call { callee := .builtin .append, args := #[s, x], argTypes := #[32, 32] })
    (lo : Nat) (v : Value) (R : List (List Int)) (hs : a.eval s = v) (hown : LsAt w lo v R) (b g c n : Nat) (L : List Int) (hn : n = L.length) (hy : OwnInts w lo (.slice (some ⟨g, 0, none⟩) n c) L) (hx : a.eval x = .slice (some ⟨b, 0, none⟩) 1 1) (hc : w.cell? ⟨b, 0, none⟩ = some (.slice (some ⟨g, 0, none⟩) n c))
    (hlen : R.length ≤ 1073741824) (hbase : lo ≤ w.heap.size) (m : Nat) (hm : m = R.length + 1)
    (h : ∀ g' c' w', LsAt w' lo (.slice (some ⟨g', 0, none⟩) m c') (R ++ [L]) → w.grownBy w' v.ownBlock → (v.ownBlock = some g' ∨ g' = w.heap.size) → K (a.put o.dst (.slice (some ⟨g', 0, none⟩) m c')) w') : o.wp Tryz.prog a w K Q := by
  subst hn
  subst hm
  obtain ⟨i0, hi0, hz0, hz1, hz2⟩ := info_parts infoSl
  obtain ⟨hl, e1, e2, e4⟩ := hown
  refine wp_append_lies w s x 32 ho lo 24 i0 (.slice none 0 0) 1 24 Tryz.underlying32 hi0 hz0 hz1 hz2 rfl (by decide) v R.length hl hs e2 ⟨b, 0, none⟩ 1 1 [.slice (some ⟨g, 0, none⟩) L.length c] hx rfl ?_ ?_ (by decide) (by unfold maxLen; omega) (by omega) hbase _ rfl ?_
  · intro j u hj
    match j, hj with
    | 0, hj => simp at hj; subst hj; simpa [Addr.add] using hc
  · intro u hu; simp at hu; subst hu; rfl
  · intro g' c' w' h1 h2 h3 _
    refine h g' c' w' ⟨hl ++ [.slice (some ⟨g, 0, none⟩) L.length c], by simp [e1], by rw [List.length_append]; exact h1, fun i hi => ?_⟩ h2 h3
    rw [List.length_append] at hi
    have hi' : i < R.length + 1 := by simpa using hi
    by_cases hlt : i < R.length
    · obtain ⟨g2, c2, hz, ho2⟩ := e4 i hlt
      have er : rr (R ++ [L]) i = rr R i := by rw [rr_app R L i hi', if_neg (by omega)]
      rw [er]
      exact ⟨g2, c2, by rw [List.getElem?_append_left (by omega)]; exact hz, World.ownsRow.kept ho2 h2 (ls_apart e2 ho2)⟩
    · have ei : i = R.length := by omega
      subst ei
      have er : rr (R ++ [L]) R.length = L := by rw [rr_app R L _ hi', if_pos rfl]
      rw [er]
      exact ⟨g, c, by rw [List.getElem?_append_right (by omega), e1]; simp, World.ownsRow.kept hy h2 (ls_apart e2 hy)⟩
/-- a list of one list -/
theorem LsAt.one {w : World} {lo g c n : Nat} {L : List Int} (hl : lo ≤ w.heap.size) (hn : n = L.length) (hy : OwnInts w lo (.slice (some ⟨g, 0, none⟩) n c) L) {b : Nat} (hb : b = w.heap.size) :
    LsAt (w.alloc (.cells #[.slice (some ⟨g, 0, none⟩) n c] 24)) lo (.slice (some ⟨b, 0, none⟩) 1 1) [L] := by
  subst hn hb
  refine ⟨[.slice (some ⟨g, 0, none⟩) L.length c], rfl, ?_, fun i hi => ?_⟩
  · exact World.ownsRow_lit w (base := lo) (e := 24) (size := 1) #[.slice (some ⟨g, 0, none⟩) L.length c] 1 hl (by simp [maxLen]) (by simp)
  · have : i = 0 := by simpa using hi
    subst this
    exact ⟨g, c, rfl, hy.alloc _⟩
theorem own_one (w : World) (x : Int) (base : Nat) (hb : base ≤ w.heap.size) {n : Nat} (hn : n = w.heap.size) : OwnInts (w.alloc (.cells #[.int .i64 x] 2)) base (.slice (some ⟨n, 0, none⟩) 1 1) [x] := by
  subst hn
  exact World.ownsRow_lit w (base := base) (e := 2) (size := 1) #[.int .i64 x] 1 hb (by simp [maxLen]) (by simp)
theorem ls_grown {w w' w0 : World} {lo n : Nat} {v : Value} {R : List (List Int)} (B : Below n w0 w) (hn : n ≤ w.heap.size) (hg : w.grownBy w' v.ownBlock) (h : LsAt w lo v R) (hb : n ≤ lo) : Below n w0 w' :=
  B.grown hg hn fun k hk => by have := h.lo_le k hk; omega

end Go.Proofs.YtpmfedllbiblbaaGreat

namespace Go.Proofs.YtpmfedllbiblbaaGreat
open Go.RowKit Cv
set_option linter.unusedVariables false
set_option linter.unusedSimpArgs false
set_option maxRecDepth 100000

theorem rr_mem {R : List (List Int)} {j : Nat} (h : j < R.length) : rr R j ∈ R := by
  unfold rr; rw [List.getD, List.getElem?_eq_getElem h]; exact List.getElem_mem _
theorem take_rr (R : List (List Int)) (j : Nat) (h : j < R.length) : R.take (j + 1) = R.take j ++ [rr R j] := by
  rw [List.take_add_one, List.getElem?_eq_getElem h]; simp [rr, List.getD, List.getElem?_eq_getElem h]
/-- the lists of t + 1 places that begin below f + m -/
def plA (n f t m : Nat) : List (List Int) := (List.range m).flatMap fun i => (plM n (f + i + 1) t).map fun l => ((f + i : Nat) : Int) :: l
theorem plA_succ (n f t m : Nat) : plA n f t (m + 1) = plA n f t m ++ (plM n (f + m + 1) t).map fun l => ((f + m : Nat) : Int) :: l := by
  unfold plA; rw [List.range_succ, List.flatMap_append]; simp
theorem plA_all (n f t : Nat) : plA n f t (n - f) = plM n f (t + 1) := rfl
theorem plM_num (n : Nat) (hn : n ≤ 8) (t : Nat) : ∀ f, (plM n f t).length ≤ 8 ^ t := by
  induction t with
  | zero => intro f; simp [plM]
  | succ t ih =>
    intro f
    rw [← plA_all]
    suffices H : ∀ m, (plA n f t m).length ≤ m * 8 ^ t from Nat.le_trans (H _) (by rw [Nat.pow_succ, Nat.mul_comm]; exact Nat.mul_le_mul (Nat.le_refl _) (by omega))
    intro m
    induction m with
    | zero => simp [plA]
    | succ m ihm =>
      rw [plA_succ, List.length_append, List.length_map, Nat.succ_mul]
      have := ih (f + m + 1)
      omega
theorem plM_512 (n : Nat) (hn : n ≤ 8) (t : Nat) (ht : t ≤ 3) (f : Nat) : (plM n f t).length ≤ 512 := by
  have h := plM_num n hn t f
  have : t = 0 ∨ t = 1 ∨ t = 2 ∨ t = 3 := by omega
  rcases this with rfl | rfl | rfl | rfl <;> omega

set_option maxHeartbeats 2000000 in
theorem l10Places_any (ao : Option Addr) (S : List Int) (cap : Nat) (hl : S.length ≤ 8) (t : Nat) : t ≤ 3 → ∀ (f : Nat), f ≤ 8 → ∀ w : World, Ints w ao S →
    Calls Tryz.prog 85 #[.agg #[.slice ao S.length cap], .int .i64 (f : Int), .int .i64 (t : Int)] w fun e w' => ∃ g c, e = .returned (.slice (some ⟨g, 0, none⟩) (plM S.length f t).length c) ∧ LsAt w' w.heap.size (.slice (some ⟨g, 0, none⟩) (plM S.length f t).length c) (plM S.length f t) ∧ Below w.heap.size w w' := by
  induction t with
  | zero =>
    intro _ f hf w hS
    have B0 : Below w.heap.size w (w.alloc (.cells #[.slice ao S.length cap] 26)) := by go_grown
    have B1 := B0.alloc B0.size (.cells #[] 2)
    have o1 := own_empty (w.alloc (.cells #[.slice ao S.length cap] 26)) w.heap.size B0.size (n := w.heap.size + 1) (by simp)
    have l1 := LsAt.one (L := []) B1.size rfl o1 (b := w.heap.size + 2) (by simp)
    have B2 := B1.alloc B1.size (.cells #[.slice (some ⟨w.heap.size + 1, 0, none⟩) 0 0] 24)
    have HP : Hid (plM S.length f 0 = [[]]) := Lib.hid rfl
    go_enter Tryz.func85, Tryz.ntmps85
    go_wp2_with fail
    go_ret
    rw [HP.out]
    exact ⟨_, 1, rfl, l1, B2⟩
  | succ t ih =>
    intro ht f hf w hS
    have HI := Lib.hid fun f (hf : f ≤ 8) w hS => ih (by omega) f hf w hS
    have HN := Lib.hid fun f => plM_512 S.length hl t (by omega) f
    have HA := Lib.hid fun m => plA_succ S.length f t m
    have HF : Hid (plA S.length f t (S.length - f) = plM S.length f (t + 1)) := Lib.hid (plA_all _ _ _)
    have HB : Hid (∀ m, m ≤ 8 → (plA S.length f t m).length ≤ 512 * m) := Lib.hid fun m hm => by
      clear hm
      induction m with
      | zero => simp [plA]
      | succ m ihm =>
        rw [plA_succ, List.length_append, List.length_map]
        have := plM_512 S.length hl t (by omega) (f + m + 1)
        omega
    clear ih
    have B0 : Below w.heap.size w (w.alloc (.cells #[.slice ao S.length cap] 26)) := by go_grown
    have c0 := cell_new w (.slice ao S.length cap) 26
    have l0 := lt_alloc w (.cells #[.slice ao S.length cap] 26)
    have B1 := B0.alloc B0.size (.cells #[] 24)
    have ls1 := LsAt.empty (w.alloc (.cells #[.slice ao S.length cap] 26)) (w.heap.size + 1) (by simp) (n := w.heap.size + 1) (by simp)
    have c1 := kept_cell ((Below.refl _ (w.alloc (.cells #[.slice ao S.length cap] 26))).alloc (Nat.le_refl _) (.cells #[] 24)) c0 l0
    have l1 : w.heap.size < ((w.alloc (.cells #[.slice ao S.length cap] 26)).alloc (.cells #[] 24)).heap.size := by simp; omega
    obtain ⟨W1, hW1⟩ : ∃ W1, W1 = (w.alloc (.cells #[.slice ao S.length cap] 26)).alloc (.cells #[] 24) := ⟨_, rfl⟩
    rw [← hW1] at B1 ls1 c1 l1
    have HW1 := Lib.hid hW1
    have tz : ((t : Int) + 1 == 0) = false := by simp; omega
    clear hW1 B0 c0 l0
    go_enter Tryz.func85, Tryz.ntmps85
    push_cast
    go_wp2_with fail
    rw [← HW1.out]
    go_loopw [7, 8] (fun o i wr => ∃ m g c : Nat, f + m ≤ max f S.length ∧ i = .int .i64 ((f + m : Nat) : Int) ∧ o = .slice (some ⟨g, 0, none⟩) (plA S.length f t m).length c ∧ LsAt wr (w.heap.size + 1) (.slice (some ⟨g, 0, none⟩) (plA S.length f t m).length c) (plA S.length f t m) ∧ wr.cell? ⟨w.heap.size, 0, none⟩ = some (.slice ao S.length cap) ∧ w.heap.size < wr.heap.size ∧ Below w.heap.size w wr) (fun _ i _ => S.length - (intOf i).toNat)
    case atStart => exact ⟨0, _, 0, by omega, rfl, rfl, ls1, c1, l1, B1⟩
    case round =>
      clear ls1 c1 l1 B1
      obtain ⟨m, g, c, hm, rfl, rfl, ls, c1, l1, B⟩ := hrel
      have hBm := HB.out m (by omega)
      have HAm := Lib.hid (HA.out m)
      obtain ⟨R, hR⟩ : ∃ R, R = plA S.length f t m := ⟨_, rfl⟩
      rw [← hR] at hBm HAm ls ⊢
      have HR := Lib.hid hR
      clear hR
      by_cases hlt : f + m < S.length
      · have hlI : ((f + m : Nat) : Int) < (S.length : Int) := by omega
        have hI := HI.out (f + m + 1) (by omega) wr (hS.below B)
        have hNq := HN.out (f + m + 1)
        obtain ⟨Q, hQ⟩ : ∃ Q, Q = plM S.length (f + m + 1) t := ⟨_, rfl⟩
        have HQl : Hid (∀ j, j < Q.length → (rr Q j).length = t) := Lib.hid fun j hj => (plM_len _ _ _ _ (by rw [← hQ]; exact rr_mem hj)).1
        rw [← hQ] at hI hNq HAm
        clear hQ
        obtain ⟨w0, rfl⟩ : ∃ w0, w0 = wr := ⟨_, rfl⟩
        obtain ⟨p, hp⟩ : ∃ p, p = f + m := ⟨_, rfl⟩
        rw [← hp] at hI hlI HAm ⊢
        have HPm := Lib.hid hp
        clear hp
        push_cast at hI
        have ez : (t : Int) + 1 - 1 = (t : Int) := by omega
        go_wp2_with fail
        refine hI.mono ?_
        rintro e w2 ⟨g2, c2, rfl, ls2, hb2⟩
        have lsA := ls.below hb2
        have cA := kept_cell hb2 c1 l1
        have lA := lt_of_below hb2 l1
        have B2 := B.trans (hb2.mono B.size)
        have hgl := ls.lo_le g rfl
        have hg2 := ls2.lo_le g2 rfl
        have hgg : g ≠ g2 := by omega
        have hlo : w.heap.size ≤ w0.heap.size := B.size
        clear hI ez ls c1 l1 B hb2 hgl
        go_wp2_with fail
        go_loopw [7, 10] (fun o k wk => ∃ j g' c' : Nat, j ≤ Q.length ∧ k = .int .i64 (j : Int) ∧ o = .slice (some ⟨g', 0, none⟩) (R.length + j) c' ∧ LsAt wk (w.heap.size + 1) (.slice (some ⟨g', 0, none⟩) (R.length + j) c') (R ++ (Q.take j).map fun l => (p : Int) :: l) ∧ LsAt wk w0.heap.size (.slice (some ⟨g2, 0, none⟩) Q.length c2) Q ∧ g' ≠ g2 ∧ wk.cell? ⟨w.heap.size, 0, none⟩ = some (.slice ao S.length cap) ∧ w.heap.size < wk.heap.size ∧ Below w.heap.size w wk) (fun _ k _ => Q.length - (intOf k).toNat)
        case atStart => exact ⟨0, g, c, Nat.zero_le _, rfl, rfl, by simpa using lsA, ls2, hgg, cA, lA, B2⟩
        case round =>
          clear lsA ls2 cA lA B2 hgg
          obtain ⟨j, g', c', hj, rfl, rfl, lsA, lsQ, hne, cA, lA, B⟩ := hrel
          have hTl : ((Q.take j).map fun l => (p : Int) :: l).length = j := by simp; omega
          have HTs : Hid (j < Q.length → ((Q.take j).map fun l => (p : Int) :: l) ++ [(p : Int) :: rr Q j] = (Q.take (j + 1)).map fun l => (p : Int) :: l) := Lib.hid fun h => by rw [take_rr Q j h]; simp
          have HTa : Hid (j = Q.length → ((Q.take j).map fun l => (p : Int) :: l) = Q.map fun l => (p : Int) :: l) := Lib.hid fun h => by rw [h, List.take_length]
          obtain ⟨T, hT⟩ : ∃ T, T = (Q.take j).map fun l => (p : Int) :: l := ⟨_, rfl⟩
          rw [← hT] at lsA hTl HTs HTa
          have hRT : (R ++ T).length = R.length + j := by rw [List.length_append, hTl]
          have HRT := Lib.hid hRT
          have HTl := Lib.hid hTl
          clear hT hTl hRT
          by_cases hlj : j < Q.length
          · obtain ⟨gq, gr, cr, hgq, hlq, hcq, hoq⟩ := lsQ.at hlj
            obtain rfl : g2 = gq := by simpa using hgq
            have HQj := Lib.hid (HQl.out j hlj)
            have HTj := Lib.hid (HTs.out hlj)
            obtain ⟨L, hL⟩ : ∃ L, L = rr Q j := ⟨_, rfl⟩
            rw [← hL] at hcq hoq HQj HTj
            obtain ⟨nL, hnL⟩ : ∃ nL, nL = L.length := ⟨_, rfl⟩
            have HnL := Lib.hid hnL
            rw [← hnL] at hcq hoq
            have hnt : nL ≤ 3 := by have := HQj.out; omega
            have hgA := (lsA.lo_le g' rfl).1
            have hzw : w.heap.size + 1 ≤ wr.heap.size := lA
            clear hgq hL hnL HTs HTa HQl
            go_wp2_with (first
              | (at_builtin; refine wpList_append_ints rfl _ _ rfl wr.heap.size _ [(p : Int)] rfl (own_one wr (p : Int) wr.heap.size (Nat.le_refl _) rfl) ⟨gr, 0, none⟩ L nL cr HnL.out rfl ((own_ints hoq).below ((Below.refl _ wr).alloc (Nat.le_refl _) _)) (by simp; omega) (by simp) ?_; intro v3 w3 own3 hgrow3 _; obtain ⟨g3, c3, hv3, _⟩ := own_some own3 (by simp); have hb3 := grown_below ((Below.refl _ wr).alloc (Nat.le_refl _) (.cells #[.int .i64 (p : Int)] 2)) (by simp) hgrow3 (own_one wr (p : Int) wr.heap.size (Nat.le_refl _) rfl) (Nat.le_refl _); rw [show ([(p : Int)] ++ L).length = nL + 1 by simp [HnL.out]] at hv3; subst hv3)
              | (at_builtin; refine wpList_append_ls rfl _ _ rfl (w.heap.size + 1) _ (R ++ T) rfl ((lsA.below hb3).alloc _) w3.heap.size g3 c3 (nL + 1) ([(p : Int)] ++ L) (by simp [HnL.out]) ((own3.rebase hzw).alloc _) rfl (cell_new _ _ _) (by rw [HRT.out]; omega) (by have := hb3.size; simp; omega) ?_; intro g5 c5 w5 ls5 hg5 hat5)
              | fail)
            have lsA3 := (lsA.below hb3).alloc (.cells #[.slice (some ⟨g3, 0, none⟩) (nL + 1) c3] 24)
            have B3 := (hb3.mono hzw).alloc (Nat.le_trans hzw hb3.size) (.cells #[.slice (some ⟨g3, 0, none⟩) (nL + 1) c3] 24)
            have B5 := ls_grown B3 (Nat.le_trans hzw B3.size) hg5 lsA3 (Nat.le_refl _)
            have lsQ5 := ((lsQ.below hb3).alloc (.cells #[.slice (some ⟨g3, 0, none⟩) (nL + 1) c3] 24)).kept2 lsA3 hg5 (.inr (by simp only [Value.ownBlock]; intro e; exact hne (Option.some.inj e).symm))
            have cA5 := kept_cell B5 cA (Nat.lt_succ_self _)
            have lA5 := Nat.lt_of_lt_of_le lA B5.size
            have hne5 : g5 ≠ g2 := by
              rcases hat5 with e | e
              · have e' : g' = g5 := Option.some.inj e
                omega
              · have h1 := (lsQ.lo_le g2 rfl).2; have h2 := hb3.size; rw [World.size_alloc] at e; omega
            have B6 := B.trans (B5.mono (Nat.le_succ _))
            rw [HRT.out] at ls5
            rw [HTl.out]
            rw [List.append_assoc, show [(p : Int)] ++ L = (p : Int) :: L from rfl, HTj.out] at ls5
            clear lsA lsQ lsA3 B3 B5 B cA lA hg5 hat5 hb3 own3 hgrow3 hcq hoq hne
            go_wp2_with fail
            go_roundw
            case rel => exact ⟨j + 1, g5, c5, by omega, by go_num, by rw [Nat.add_assoc], ls5, lsQ5, hne5, cA5, lA5, B6⟩
            case measure => simp [intOf]; omega
          · have hjq : Hid (j = Q.length) := Lib.hid (by omega)
            have hjI : ¬ (j : Int) < (Q.length : Int) := by omega
            have HTe := Lib.hid (HTa.out hjq.out)
            rw [HTe.out, ← HAm.out] at lsA
            have hlen : Hid ((plA S.length f t (m + 1)).length = R.length + j) := Lib.hid (by rw [HAm.out, List.length_append, List.length_map, hjq.out])
            go_wp2_with fail
            go_roundw
            case rel => exact ⟨m + 1, g', c', by have := HPm.out; omega, by rw [HPm.out]; go_num, by rw [hlen.out], by rw [hlen.out]; exact lsA, cA, lA, B⟩
            case measure => have := HPm.out; simp [intOf]; omega
      · have hlI : ¬ ((f + m : Nat) : Int) < (S.length : Int) := by omega
        have HE : Hid (R = plM S.length f (t + 1)) := Lib.hid (by
          rw [← HF.out, HR.out]
          by_cases h : f ≤ S.length
          · rw [show m = S.length - f by omega]
          · rw [show m = 0 by omega, show S.length - f = 0 by omega])
        rw [HE.out] at ls
        obtain ⟨p, hp⟩ : ∃ p, p = f + m := ⟨_, rfl⟩
        rw [← hp] at hlI ⊢
        clear hp
        go_wp2_with fail
        go_ret
        exact ⟨g, c, by rw [HE.out]; rfl, ls.rebase (Nat.le_succ _), B⟩

end Go.Proofs.YtpmfedllbiblbaaGreat

namespace Go.Proofs.YtpmfedllbiblbaaGreat
open Go.RowKit Cv
set_option linter.unusedVariables false
set_option linter.unusedSimpArgs false
set_option maxRecDepth 100000

/-- the lists behind the first j ones, and the first d digits behind the next one -/
def dgJ (D : List (List Int)) (q j : Nat) : List (List Int) := (D.take j).flatMap fun l => (List.range q).map fun (d : Nat) => l ++ [(d : Int)]
def dgD (L : List Int) (d : Nat) : List (List Int) := (List.range d).map fun (x : Nat) => L ++ [(x : Int)]
theorem dgD_succ (L : List Int) (d : Nat) : dgD L (d + 1) = dgD L d ++ [L ++ [(d : Int)]] := by unfold dgD; rw [List.range_succ, List.map_append]; rfl
theorem dgD_len (L : List Int) (d : Nat) : (dgD L d).length = d := by simp [dgD]
theorem dgJ_succ (D : List (List Int)) (q j : Nat) (h : j < D.length) : dgJ D q (j + 1) = dgJ D q j ++ dgD (rr D j) q := by
  unfold dgJ dgD; rw [take_rr D j h, List.flatMap_append]; simp
theorem dgJ_len (D : List (List Int)) (q j : Nat) (h : j ≤ D.length) : (dgJ D q j).length = j * q := by
  induction j with
  | zero => simp [dgJ]
  | succ j ih => rw [dgJ_succ D q j (by omega), List.length_append, ih (by omega), dgD_len, Nat.succ_mul]
theorem dgJ_all (Q : List Int) (k : Nat) : dgJ (dgTo Q k) (gi Q k).toNat (dgTo Q k).length = dgTo Q (k + 1) := by unfold dgJ; rw [List.take_length]; rfl
theorem dgTo_num (Q : List Int) (hQ : ∀ i, i < Q.length → 2 ≤ gi Q i ∧ gi Q i ≤ 4) (k : Nat) (hk : k ≤ Q.length) : (dgTo Q k).length ≤ 4 ^ k := by
  have h1 := dg_count Q hQ k hk
  have h2 := (prodTo_bd Q k fun i hi => hQ i (by omega)).2
  have : ((4 ^ k : Nat) : Int) = (4 : Int) ^ k := by push_cast; rfl
  omega

set_option maxHeartbeats 2000000 in
theorem l10Digits_any (ao : Option Addr) (S : List Int) (cap : Nat) (hSp : Sp S) (gp t cp : Nat) (P : List Int) (hP : P ∈ plM S.length 0 t) (ht : t ≤ 3) (w : World) (hS : Ints w ao S) (hPI : Ints w (some ⟨gp, 0, none⟩) P) :
    Calls Tryz.prog 86 #[.agg #[.slice ao S.length cap], .slice (some ⟨gp, 0, none⟩) t cp] w fun e w' => ∃ g c, e = .returned (.slice (some ⟨g, 0, none⟩) (dgTo (szP S P) t).length c) ∧ LsAt w' w.heap.size (.slice (some ⟨g, 0, none⟩) (dgTo (szP S P) t).length c) (dgTo (szP S P) t) ∧ Below w.heap.size w w' := by
  obtain ⟨hPl, hPb⟩ := plM_len _ _ _ _ hP
  obtain ⟨hQl, hQb⟩ := szP_bd hSp hP
  have HN := Lib.hid fun k (hk : k ≤ t) => dgTo_num (szP S P) hQb k (by omega)
  have HPB : Hid (∀ k, k < t → ∃ i : Nat, gi P k = (i : Int) ∧ i < S.length ∧ gi (szP S P) k = gi S i ∧ 2 ≤ gi S i ∧ gi S i ≤ 4) := Lib.hid fun k hk => by
    have h := hPb (gi P k) (by rw [gi_lt _ _ (by omega)]; exact List.getElem_mem _)
    refine ⟨(gi P k).toNat, by omega, by omega, gi_szP S P k (by omega), ?_⟩
    exact hSp.bd _ (by omega)
  have HLn : Hid (∀ k j, j < (dgTo (szP S P) k).length → (rr (dgTo (szP S P) k) j).length = k) := Lib.hid fun k j hj => dgTo_len _ _ _ (rr_mem hj)
  have HJA := Lib.hid fun k => dgJ_all (szP S P) k
  have hhi := hSp.hi
  have hlo := hSp.lo
  obtain ⟨Q, hQ⟩ : ∃ Q, Q = szP S P := ⟨_, rfl⟩
  rw [← hQ] at HN HPB HLn HJA ⊢
  have HD0 : Hid (dgTo Q 0 = [[]]) := Lib.hid rfl
  obtain ⟨bS, oS, rfl, hbS, hcS⟩ := hS.at (show 0 < S.length by omega)
  have HcS := Lib.hid hcS
  have HcP : Hid (∀ k, k < t → gp < w.heap.size ∧ w.cell? ⟨gp, k, none⟩ = some (.int .i64 (gi P k))) := Lib.hid fun k hk => by
    obtain ⟨b, o, he, hb, hc⟩ := hPI.at (show k < P.length by omega)
    cases he
    have := hc k (by omega)
    rw [Nat.zero_add] at this
    exact ⟨hb, this⟩
  clear hQ hP hPb hQl hQb hcS
  have B0 : Below w.heap.size w (w.alloc (.cells #[.slice (some ⟨bS, oS, none⟩) S.length cap] 26)) := by go_grown
  have c0 := cell_new w (.slice (some ⟨bS, oS, none⟩) S.length cap) 26
  have l0 := lt_alloc w (.cells #[.slice (some ⟨bS, oS, none⟩) S.length cap] 26)
  have B1 := B0.alloc B0.size (.cells #[] 2)
  have c1 := kept_cell ((Below.refl _ (w.alloc (.cells #[.slice (some ⟨bS, oS, none⟩) S.length cap] 26))).alloc (Nat.le_refl _) (.cells #[] 2)) c0 l0
  have l1 : w.heap.size < ((w.alloc (.cells #[.slice (some ⟨bS, oS, none⟩) S.length cap] 26)).alloc (.cells #[] 2)).heap.size := by simp; try omega
  have o1 := own_empty (w.alloc (.cells #[.slice (some ⟨bS, oS, none⟩) S.length cap] 26)) (w.heap.size + 1) (by simp) (n := w.heap.size + 1) (by simp)
  have ls1 := LsAt.one (lo := w.heap.size + 1) (n := 0) (L := []) (by simp; try omega) rfl o1 (b := w.heap.size + 2) (by simp)
  have B2 := B1.alloc B1.size (.cells #[.slice (some ⟨w.heap.size + 1, 0, none⟩) 0 0] 24)
  have c2 := kept_cell ((Below.refl _ ((w.alloc (.cells #[.slice (some ⟨bS, oS, none⟩) S.length cap] 26)).alloc (.cells #[] 2))).alloc (Nat.le_refl _) (.cells #[.slice (some ⟨w.heap.size + 1, 0, none⟩) 0 0] 24)) c1 l1
  obtain ⟨W1, hW1⟩ : ∃ W1, W1 = ((w.alloc (.cells #[.slice (some ⟨bS, oS, none⟩) S.length cap] 26)).alloc (.cells #[] 2)).alloc (.cells #[.slice (some ⟨w.heap.size + 1, 0, none⟩) 0 0] 24) := ⟨_, rfl⟩
  have l2 : w.heap.size < W1.heap.size := by rw [hW1]; simp; try omega
  rw [← hW1] at B2 ls1 c2
  have HW1 := Lib.hid hW1
  clear hW1 B0 B1 c0 l0 c1 l1 o1
  go_enter Tryz.func86, Tryz.ntmps86
  go_wp2_with fail
  rw [← HW1.out]
  go_loopw [5, 6] (fun o i wr => ∃ k g c : Nat, k ≤ t ∧ i = .int .i64 (k : Int) ∧ o = .slice (some ⟨g, 0, none⟩) (dgTo Q k).length c ∧ LsAt wr (w.heap.size + 1) (.slice (some ⟨g, 0, none⟩) (dgTo Q k).length c) (dgTo Q k) ∧ wr.cell? ⟨w.heap.size, 0, none⟩ = some (.slice (some ⟨bS, oS, none⟩) S.length cap) ∧ w.heap.size < wr.heap.size ∧ Below w.heap.size w wr) (fun _ i _ => t - (intOf i).toNat)
  case atStart => exact ⟨0, _, 1, by omega, rfl, rfl, ls1, c2, l2, B2⟩
  case round =>
    clear ls1 c2 l2 B2
    obtain ⟨k, g, c, hk, rfl, rfl, ls, c1, l1, B⟩ := hrel
    have hNk := HN.out k hk
    have HLk := Lib.hid (HLn.out k)
    have HJk := Lib.hid (HJA.out k)
    obtain ⟨D, hD⟩ : ∃ D, D = dgTo Q k := ⟨_, rfl⟩
    rw [← hD] at hNk HLk HJk ls ⊢
    have HD := Lib.hid hD
    clear hD
    have hD64 : D.length ≤ 64 := by
      have : k = 0 ∨ k = 1 ∨ k = 2 ∨ k = 3 := by omega
      rcases this with rfl | rfl | rfl | rfl <;> omega
    clear hNk
    by_cases hlt : k < t
    · have hlI : (k : Int) < (t : Int) := by omega
      obtain ⟨i, hpi, hiS, hqi, hq2, hq4⟩ := HPB.out k hlt
      obtain ⟨q, hq⟩ : ∃ q : Nat, gi S i = (q : Int) := ⟨(gi S i).toNat, by omega⟩
      rw [hqi, hq, Int.toNat_natCast] at HJk
      rw [hq] at hq2 hq4
      have HKc : Hid (gp < w.heap.size ∧ w.cell? ⟨gp, k, none⟩ = some (.int .i64 (i : Int)) ∧ w.cell? ⟨bS, oS + i, none⟩ = some (.int .i64 (q : Int))) := Lib.hid ⟨(HcP.out k hlt).1, by rw [← hpi]; exact (HcP.out k hlt).2, by rw [← hq]; exact HcS.out i hiS⟩
      have hq4 : q ≤ 4 := by omega
      have hq2 : 2 ≤ q := by omega
      have hiI : (i : Int) < (S.length : Int) := by omega
      have hi0 : (0 : Int) ≤ (i : Int) := by omega
      have HJL := Lib.hid fun j (h : j ≤ D.length) => dgJ_len D q j h
      have HJS := Lib.hid fun j (h : j < D.length) => dgJ_succ D q j h
      obtain ⟨w0, rfl⟩ : ∃ w0, w0 = wr := ⟨_, rfl⟩
      have lsE := LsAt.empty w0 (w.heap.size + 1) l1 (n := w0.heap.size) rfl
      have lsA := ls.alloc (.cells #[] 24)
      have hgl := ls.lo_le g rfl
      have hgg : w0.heap.size ≠ g := by omega
      have cA := kept_cell ((Below.refl _ w0).alloc (Nat.le_refl _) (.cells #[] 24)) c1 l1
      have lA : w.heap.size < (w0.alloc (.cells #[] 24)).heap.size := by simp; try omega
      have BA := B.alloc B.size (.cells #[] 24)
      clear hpi hqi hq ls c1 B
      go_wp2_with fail
      go_loopw [7, 8] (fun o x wk => ∃ j g' c' : Nat, j ≤ D.length ∧ x = .int .i64 (j : Int) ∧ o = .slice (some ⟨g', 0, none⟩) (dgJ D q j).length c' ∧ LsAt wk (w.heap.size + 1) (.slice (some ⟨g', 0, none⟩) (dgJ D q j).length c') (dgJ D q j) ∧ LsAt wk (w.heap.size + 1) (.slice (some ⟨g, 0, none⟩) D.length c) D ∧ g' ≠ g ∧ g < w0.heap.size ∧ wk.cell? ⟨w.heap.size, 0, none⟩ = some (.slice (some ⟨bS, oS, none⟩) S.length cap) ∧ w.heap.size < wk.heap.size ∧ w0.heap.size ≤ wk.heap.size ∧ Below w.heap.size w wk) (fun _ x _ => D.length - (intOf x).toNat)
      case atStart => exact ⟨0, _, 0, Nat.zero_le _, rfl, rfl, lsE, lsA, hgg, hgl.2, cA, lA, by simp, BA⟩
      case round =>
        clear lsE lsA hgg hgl cA lA BA
        obtain ⟨j, g', c', hj, rfl, rfl, lsN, lsD, hgg, hg0, c1, l1, h0, B⟩ := hrel
        have hJl := HJL.out j hj
        have HJs := Lib.hid (HJS.out j)
        obtain ⟨R, hR⟩ : ∃ R, R = dgJ D q j := ⟨_, rfl⟩
        rw [← hR] at hJl HJs lsN ⊢
        have HR := Lib.hid hR
        have HRl := Lib.hid hJl
        have hRl : R.length ≤ 256 := by rw [hJl]; exact Nat.le_trans (Nat.mul_le_mul (show j ≤ 64 by omega) hq4) (by omega)
        clear hR hJl
        by_cases hlj : j < D.length
        · have hjI : (j : Int) < (D.length : Int) := by omega
          obtain ⟨v0, rfl⟩ : ∃ v0, v0 = wr := ⟨_, rfl⟩
          have HSj := Lib.hid (HJs.out hlj)
          have hLl := HLk.out j hlj
          obtain ⟨L, hL⟩ : ∃ L, L = rr D j := ⟨_, rfl⟩
          rw [← hL] at HSj hLl
          have HL := Lib.hid hL
          clear hL
          go_wp2_with fail
          go_loopw [7, 9] (fun o x wk => ∃ d g5 c5 : Nat, d ≤ q ∧ x = .int .i64 (d : Int) ∧ o = .slice (some ⟨g5, 0, none⟩) (R.length + d) c5 ∧ LsAt wk (w.heap.size + 1) (.slice (some ⟨g5, 0, none⟩) (R.length + d) c5) (R ++ dgD L d) ∧ LsAt wk (w.heap.size + 1) (.slice (some ⟨g, 0, none⟩) D.length c) D ∧ g5 ≠ g ∧ wk.cell? ⟨w.heap.size, 0, none⟩ = some (.slice (some ⟨bS, oS, none⟩) S.length cap) ∧ w.heap.size < wk.heap.size ∧ w0.heap.size ≤ wk.heap.size ∧ Below w.heap.size w wk) (fun _ x _ => q - (intOf x).toNat)
          case atStart => exact ⟨0, g', c', Nat.zero_le _, rfl, rfl, by simpa [dgD] using lsN, lsD, hgg, c1, l1, h0, B⟩
          case round =>
            clear lsN lsD hgg c1 l1 h0 B
            obtain ⟨d, g5, c5, hd, rfl, rfl, lsN, lsD, hgg, c1, l1, h0, B⟩ := hrel
            obtain ⟨kp1, kp2, kp3⟩ := HKc.out
            have k1 := kept_cell B kp2 kp1
            have k2 := kept_cell B kp3 hbS
            have lgp := lt_of_below B kp1
            have lbS := lt_of_below B hbS
            clear kp1 kp2 kp3
            by_cases hld : d < q
            · have hdI : (d : Int) < (q : Int) := by omega
              obtain ⟨gq, gr, cr, hgq, hlq, hcq, hoq⟩ := lsD.at hlj
              obtain rfl : g = gq := by simpa using hgq
              rw [← HL.out] at hcq hoq
              obtain ⟨nL, hnL⟩ : ∃ nL, nL = L.length := ⟨_, rfl⟩
              rw [← hnL] at hcq hoq
              have HnL := Lib.hid hnL
              have hn3 : nL ≤ 3 := by omega
              have HDs := Lib.hid (dgD_succ L d)
              have HRd : Hid ((R ++ dgD L d).length = R.length + d) := Lib.hid (by rw [List.length_append, dgD_len])
              have HDl := Lib.hid (dgD_len L d)
              clear hgq hnL hLl
              go_wp2_with fail
              go_quiet (fail)
              obtain ⟨w5, hw5⟩ : ∃ w5, w5 = wr.drewN nq := ⟨_, rfl⟩
              have bq : Below wr.heap.size wr w5 := by rw [hw5]; exact below_drewN (Below.refl _ _) nq
              have lsN5 := lsN.below bq
              have lsD5 := lsD.below bq
              have c5b := kept_cell bq c1 l1
              have l5 := lt_of_below bq l1
              have h05 := Nat.le_trans h0 bq.size
              have B5 := B.trans (bq.mono B.size)
              have hcq5 := kept_cell bq hcq hlq
              have hlq5 := lt_of_below bq hlq
              have hoq5 := hoq.below bq
              rw [← hw5]
              clear hw5 bq lsN lsD c1 l1 h0 B hcq hlq hoq k1 k2 lgp lbS
              go_wp2_with fail
              refine (l01Own_any ⟨gr, 0, none⟩ L nL cr HnL.out (by omega) _ (own_ints hoq5)).mono ?_
              rintro e w6 ⟨g6, c6, rfl, own6, hb6⟩
              have hL3 : L.length ≤ 3 := by rw [← HnL.out]; exact hn3
              have l65 := hb6.size
              go_wp2_with (first
                | (at_builtin; refine wpList_append_int rfl _ _ rfl w5.heap.size _ L rfl (own6.alloc _) w6.heap.size (d : Int) rfl (cell_new _ _ _) (by omega) (by simp; omega) ?_; intro v3 w7 own7 hgrow7; obtain ⟨g7, c7, hv7, _⟩ := own_some own7 (by simp); have b7 := grown_below (hb6.alloc hb6.size (.cells #[.int .i64 (d : Int)] 2)) (by simp; omega) hgrow7 (own6.alloc _) (Nat.le_refl _); rw [show (L ++ [(d : Int)]).length = nL + 1 by simp [HnL.out]] at hv7; subst hv7)
                | (at_builtin; refine wpList_append_ls rfl _ _ rfl (w.heap.size + 1) _ (R ++ dgD L d) rfl ((lsN5.below b7).alloc _) w7.heap.size g7 c7 (nL + 1) (L ++ [(d : Int)]) (by simp [HnL.out]) ((own7.rebase (show w.heap.size + 1 ≤ w5.heap.size from l5)).alloc _) rfl (cell_new _ _ _) (by rw [HRd.out]; omega) (by have := b7.size; simp; omega) ?_; intro g9 c9 w9 ls9 hg9 hat9)
                | fail)
              have lsN8 := (lsN5.below b7).alloc (.cells #[.slice (some ⟨g7, 0, none⟩) (nL + 1) c7] 24)
              have B8 := (b7.mono (show w.heap.size + 1 ≤ w5.heap.size from l5)).alloc (Nat.le_trans l5 b7.size) (.cells #[.slice (some ⟨g7, 0, none⟩) (nL + 1) c7] 24)
              have B9 := ls_grown B8 (Nat.le_trans l5 B8.size) hg9 lsN8 (Nat.le_refl _)
              have lsD9 := ((lsD5.below b7).alloc (.cells #[.slice (some ⟨g7, 0, none⟩) (nL + 1) c7] 24)).kept2 lsN8 hg9 (.inr (by simp only [Value.ownBlock]; intro e; exact hgg (Option.some.inj e).symm))
              have c9b := kept_cell B9 c5b (Nat.lt_succ_self _)
              have l9 := Nat.lt_of_lt_of_le l5 B9.size
              have h09 := Nat.le_trans h05 B9.size
              have hne9 : g9 ≠ g := by
                rcases hat9 with e | e
                · have e' : g5 = g9 := Option.some.inj e
                  omega
                · have h1 := (lsD5.lo_le g rfl).2; have h2 := b7.size; rw [World.size_alloc] at e; omega
              have BB := B5.trans (B9.mono (Nat.le_succ _))
              rw [HRd.out] at ls9
              rw [HDl.out]
              rw [List.append_assoc, ← HDs.out] at ls9
              clear lsN5 lsD5 c5b l5 h05 B5 hcq5 hlq5 hoq5 hb6 lsN8 B8 B9 hg9 hat9 b7 own6 own7 hgrow7 hgg
              go_wp2_with fail
              go_roundw
              case rel => exact ⟨d + 1, g9, c9, by omega, by go_num, by rw [Nat.add_assoc], ls9, lsD9, hne9, c9b, l9, h09, BB⟩
              case measure => simp [intOf]; omega
            · have hdI : ¬ (d : Int) < (q : Int) := by omega
              have hdq : Hid (d = q) := Lib.hid (by omega)
              have HRn : Hid (dgJ D q (j + 1) = R ++ dgD L d) := Lib.hid (by rw [HSj.out, hdq.out])
              have hlen : Hid ((dgJ D q (j + 1)).length = R.length + d) := Lib.hid (by rw [HRn.out, List.length_append, dgD_len])
              rw [← HRn.out] at lsN
              go_wp2_with fail
              go_quiet (fail)
              obtain ⟨w5, hw5⟩ : ∃ w5, w5 = wr.drewN nq := ⟨_, rfl⟩
              have bq : Below wr.heap.size wr w5 := by rw [hw5]; exact below_drewN (Below.refl _ _) nq
              have lsN5 := lsN.below bq
              have lsD5 := lsD.below bq
              have c5b := kept_cell bq c1 l1
              have l5 := lt_of_below bq l1
              have h05 := Nat.le_trans h0 bq.size
              have B5 := B.trans (bq.mono B.size)
              rw [← hw5]
              clear hw5 bq lsN lsD c1 l1 h0 B k1 k2 lgp lbS
              go_wp2_with fail
              go_roundw
              case rel => exact ⟨j + 1, g5, c5, by omega, by go_num, by rw [hlen.out], by rw [hlen.out]; exact lsN5, lsD5, hgg, hg0, c5b, l5, h05, B5⟩
              case measure => simp [intOf]; omega
        · have hjI : ¬ (j : Int) < (D.length : Int) := by omega
          have HRn : Hid (dgTo Q (k + 1) = R) := Lib.hid (by rw [← HJk.out, HR.out, show j = D.length by omega])
          go_wp2_with fail
          go_roundw
          case rel => exact ⟨k + 1, g', c', by omega, by go_num, by rw [HRn.out], by rw [HRn.out]; exact lsN, c1, l1, B⟩
          case measure => simp [intOf]; omega
    · have hlI : ¬ (k : Int) < (t : Int) := by omega
      have HE : Hid (D = dgTo Q t) := Lib.hid (by rw [HD.out, show k = t by omega])
      rw [HE.out] at ls
      go_wp2_with fail
      go_ret
      exact ⟨g, c, by rw [HE.out]; rfl, ls.rebase (Nat.le_succ _), B⟩

end Go.Proofs.YtpmfedllbiblbaaGreat

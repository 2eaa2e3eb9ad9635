/-
  Texts put together: Src, AppendAt, Mark. By an AI agent.
-/
import Derived.Test.YtamebfbddoeflaaPk19
import Derived.Test.YtamebfbddoeflaaPkAppend
import Derived.StillTailTactics
import Derived.Maps.AppendAt
import Derived.Test.YtamebfbddoeflaaPkHelp
namespace Go.Proofs.Ytamebfbddoeflaa
open Go.RowKit Cv
set_option linter.unusedVariables false
set_option linter.unusedSimpArgs false
set_option maxRecDepth 100000

/-- n bytes lie at a, in a block below B -/
def Byts (w : World) (B : Nat) (a : Option Addr) (n : Nat) : Prop :=
  n = 0 ∨ ∃ b o, a = some ⟨b, o, none⟩ ∧ b < B ∧ ∀ i, i < n → ∃ c : Int, 0 ≤ c ∧ c < 256 ∧ w.cell? ⟨b, o + i, none⟩ = some (.int .u8 c)
theorem Byts.keep {w w' : World} {B : Nat} {a : Option Addr} {n : Nat} (h : Byts w B a n) (hk : ∀ b o v, b < B → w.cell? ⟨b, o, none⟩ = some v → w'.cell? ⟨b, o, none⟩ = some v) : Byts w' B a n := by
  rcases h with h | ⟨b, o, e, hb, hc⟩
  · exact .inl h
  · refine .inr ⟨b, o, e, hb, fun i hi => ?_⟩
    obtain ⟨c, h0, h1, h2⟩ := hc i hi
    exact ⟨c, h0, h1, hk _ _ _ hb h2⟩
theorem Byts.mono {w : World} {B B' : Nat} {a : Option Addr} {n : Nat} (h : Byts w B a n) (hB : B ≤ B') : Byts w B' a n := by
  rcases h with h | ⟨b, o, e, hb, hc⟩
  · exact .inl h
  · exact .inr ⟨b, o, e, by omega, hc⟩

/-- a source in the block b, over the n bytes at a -/
structure Src (w : World) (b : Nat) (a : Option Addr) (n cap : Nat) : Prop where
  c0 : w.cell? ⟨b, 0, none⟩ = some (.slice a n cap)
  c1 : ∃ t : Nat, t ≤ n ∧ w.cell? ⟨b, 1, none⟩ = some (.int .i64 (t : Int))
  c2 : ∃ h : Nat, h < 18446744073709551616 ∧ w.cell? ⟨b, 2, none⟩ = some (.int .u64 (h : Int))
  f1 : w.frozen? ⟨b, 1, none⟩ = false
  f2 : w.frozen? ⟨b, 2, none⟩ = false
  lt : b < w.heap.size
  by' : Byts w b a n
theorem Src.below {w w' : World} {b B : Nat} {a : Option Addr} {n cap : Nat} (h : Src w b a n cap) (hb : Below B w w') (hB : b < B) : Src w' b a n cap := by
  obtain ⟨c0, ⟨t, ht, c1⟩, ⟨x, hx, c2⟩, f1, f2, lt, hy⟩ := h
  refine ⟨kept_cell hb c0 hB, ⟨t, ht, kept_cell hb c1 hB⟩, ⟨x, hx, kept_cell hb c2 hB⟩, (hb.frozen (p := ⟨b, 1, none⟩) hB).trans f1, (hb.frozen (p := ⟨b, 2, none⟩) hB).trans f2, lt_of_below hb lt, hy.keep fun c o v hc h => kept_cell hb h (by omega)⟩
theorem Src.set {w : World} {b : Nat} {a : Option Addr} {n cap : Nat} (h : Src w b a n cap) (x : Nat) (hx : x < 18446744073709551616) : Src (w.setCell ⟨b, 2, none⟩ (.int .u64 (x : Int))) b a n cap := by
  obtain ⟨c0, ⟨t, ht, c1⟩, ⟨y, hy, c2⟩, f1, f2, lt, hz⟩ := h
  refine ⟨(World.cell?_setCell_other _ ⟨b, 2, none⟩ ⟨b, 0, none⟩ _ (by simp)).trans c0, ⟨t, ht, (World.cell?_setCell_other _ ⟨b, 2, none⟩ ⟨b, 1, none⟩ _ (by simp)).trans c1⟩, ⟨x, hx, World.cell?_setCell_same' _ _ _ (by rw [c2]; rfl)⟩, by simpa using f1, by simpa using f2, by simpa using lt, hz.keep fun c o v hc h => cell_set_other h (by simp; omega)⟩

theorem Src.setT {w : World} {b : Nat} {a : Option Addr} {n cap : Nat} (h : Src w b a n cap) (x : Nat) (hx : x ≤ n) : Src (w.setCell ⟨b, 1, none⟩ (.int .i64 (x : Int))) b a n cap := by
  obtain ⟨c0, ⟨t, ht, c1⟩, ⟨y, hy, c2⟩, f1, f2, lt, hz⟩ := h
  refine ⟨(World.cell?_setCell_other _ ⟨b, 1, none⟩ ⟨b, 0, none⟩ _ (by simp)).trans c0, ⟨x, hx, World.cell?_setCell_same' _ _ _ (by rw [c1]; rfl)⟩, ⟨y, hy, (World.cell?_setCell_other _ ⟨b, 1, none⟩ ⟨b, 2, none⟩ _ (by simp)).trans c2⟩, by simpa using f1, by simpa using f2, by simpa using lt, hz.keep fun c o v hc h => cell_set_other h (by simp; omega)⟩
theorem Src.drewN {w : World} {b : Nat} {a : Option Addr} {n cap : Nat} (h : Src w b a n cap) (k : Nat) : Src (w.drewN k) b a n cap := h.below (below_drewN (Below.refl w.heap.size w) k) h.lt
theorem grown_drewN {w w' : World} {r : Option Nat} (h : w.grownBy w' r) (k : Nat) : w.grownBy (w'.drewN k) r := grown_trans h (grown_of_below (below_drewN (Below.refl _ _) k) _)
theorem emod_le {a m : Int} (ha : 0 ≤ a) (hm : 0 < m) : a % m ≤ a := by
  by_cases h : a < m
  · rw [Int.emod_eq_of_lt ha h]; exact Int.le_refl _
  · have := Int.emod_lt_of_pos a hm; omega

theorem u64_nat (z : Int) : ∃ k : Nat, k < 18446744073709551616 ∧ IntKind.u64.wrap z = (k : Int) := by
  have e : IntKind.u64.wrap z = z % 18446744073709551616 := by unfold IntKind.wrap; simp [IntKind.signed, IntKind.bits]
  have h0 := Int.emod_nonneg z (show (18446744073709551616 : Int) ≠ 0 by decide)
  have h1 := Int.emod_lt_of_pos z (show (0 : Int) < 18446744073709551616 by decide)
  exact ⟨(z % 18446744073709551616).toNat, by omega, by rw [e]; omega⟩

theorem and24 (k : Nat) (hk : k < 18446744073709551616) : ∃ x : Nat, x < 16777216 ∧ bits .and .u64 ((k : Int) / 8589934592) 16777215 = (x : Int) := by
  obtain ⟨q, hq, hq2⟩ : ∃ q : Nat, (k : Int) / 8589934592 = (q : Int) ∧ q < 18446744073709551616 := ⟨k / 8589934592, by omega, by omega⟩
  rw [hq]
  have e := bits_u q 16777215 hq2 (by omega)
  have : q &&& 16777215 ≤ 16777215 := Nat.and_le_right
  exact ⟨q &&& 16777215, by omega, e⟩

set_option maxHeartbeats 1000000 in
theorem next_any (b : Nat) (a : Option Addr) (n cap : Nat) (hn : n ≤ 4096) (m : Int) (hm : -9223372036854775808 ≤ m ∧ m ≤ 9223372036854775807) (w : World) (hs : Src w b a n cap) :
    Calls Try.prog 51 #[.pointer (some ⟨b, 0, none⟩), .int .i64 m] w fun e w' => ∃ x : Int, e = .returned (.int .i64 x) ∧ 0 ≤ x ∧ x < 33554432 ∧ (1 ≤ m → x < m) ∧ Src w' b a n cap ∧ w.grownBy w' (some b) := by
  by_cases h1 : m < 1
  · go_enter Try.func51, Try.ntmps51
    go_wp2_with fail
    go_ret
    exact ⟨0, rfl, by omega, by omega, fun h => by omega, hs, grown_of_below (Below.refl _ _) _⟩
  · have HS := Lib.hid hs
    obtain ⟨c0, ⟨t, ht, c1⟩, ⟨h, hh, c2⟩, f1, f2, lt, hy⟩ := hs
    obtain ⟨k1, hk1, E1⟩ := u64_nat ((h : Int) * 6364136223846793005)
    obtain ⟨k2, hk2, E2⟩ := u64_nat ((k1 : Int) + 1442695040888963407)
    obtain ⟨x, hx, E3⟩ := and24 k2 hk2
    have E4 : wrap64 (x : Int) = (x : Int) := IntWalk.wrap64_in _ ⟨by omega, by omega⟩
    have hm0 : ¬ m = 0 := by omega
    have hm1 : (m == 0) = false := by simp; omega
    have G1 := HS.out.set k2 hk2
    have hg1 : w.grownBy (w.setCell ⟨b, 2, none⟩ (.int .u64 (k2 : Int))) (some b) := grown_setCell (grown_of_below (Below.refl _ _) _) 2 _
    have HX := Lib.hid hx
    clear hh hk1 hk2 hx
    go_enter Try.func51, Try.ntmps51
    go_wp2_with fail
    obtain ⟨w1, hw1⟩ : ∃ w1, w1 = w.setCell ⟨b, 2, none⟩ (.int .u64 (k2 : Int)) := ⟨_, rfl⟩
    rw [← hw1] at G1 hg1 ⊢
    have HG1 := Lib.hid G1
    clear c0 c1 c2 f1 f2 lt hy E1 E2 E3 hw1 ht t
    obtain ⟨c0, ⟨t, ht, c1⟩, _, f1, f2, lt, hy⟩ := G1
    have ti : (0 : Int) ≤ (t : Int) := by omega
    by_cases hlt : t < n
    · rcases hy with h0 | ⟨b', o, rfl, hb', hcs⟩
      · omega
      obtain ⟨y, y0, y1, cy⟩ := hcs t hlt
      have tl : (t : Int) < (n : Int) := by omega
      have d1 : decide ((t : Int) < (n : Int)) = true := by simpa using hlt
      have hxb := HX.out
      have E5 : IntKind.i64.wrap y = y := IntWalk.i64_in _ ⟨by omega, by omega⟩
      have E6 : IntKind.i64.wrap ((x : Int) + y) = (x : Int) + y := IntWalk.i64_in _ ⟨by omega, by omega⟩
      have Hb := Lib.hid (And.intro y0 y1)
      clear hcs hxb y1
      go_quiet (fail)
      go_wp2_with fail
      go_quiet (fail)
      go_wp2_with fail
      go_ret
      have hb := Hb.out
      have hxb := HX.out
      have q1 : (0 : Int) ≤ (x : Int) + y := by omega
      have q3 := Int.emod_nonneg ((x : Int) + y) (show m ≠ 0 by omega)
      have q4 := Int.emod_lt_of_pos ((x : Int) + y) (show 0 < m by omega)
      have q5 := emod_le q1 (show 0 < m by omega)
      exact ⟨_, rfl, q3, by omega, fun _ => q4, (HG1.out.drewN _).setT (t + 1) hlt, grown_setCell (grown_drewN hg1 _) 1 _⟩
    · have d1 : decide ((t : Int) < (n : Int)) = false := by simpa using hlt
      have Hx := HX
      go_quiet (fail)
      go_wp2_with fail
      go_ret
      have hxb := HX.out
      have q1 : (0 : Int) ≤ (x : Int) := by omega
      have q3 := Int.emod_nonneg (x : Int) (show m ≠ 0 by omega)
      have q4 := Int.emod_lt_of_pos (x : Int) (show 0 < m by omega)
      have q5 := emod_le q1 (show 0 < m by omega)
      exact ⟨_, rfl, q3, by omega, fun _ => q4, HG1.out.drewN _, grown_drewN hg1 _⟩

theorem ints_at {w : World} {a : Option Addr} {L : List Int} (h : Ints w a L) {b o : Nat} (e : a = some ⟨b, o, none⟩) {k : Nat} (hk : k < L.length) : w.cell? ⟨b, o + k, none⟩ = some (.int .i64 (gi L k)) := by
  rcases h with h | ⟨b', o', e', _, hc⟩
  · omega
  · rw [e] at e'; cases e'; exact hc k hk
theorem grown_cell {w w' : World} {b c o : Nat} {v : Value} (hg : w.grownBy w' (some b)) (h : w.cell? ⟨c, o, none⟩ = some v) (hne : c ≠ b) : w'.cell? ⟨c, o, none⟩ = some v :=
  hg.cell (a := ⟨c, o, none⟩) h (by simp; omega)

set_option maxHeartbeats 1000000 in
theorem pick_any (b : Nat) (a : Option Addr) (n cap : Nat) (hn : n ≤ 4096) (g : Nat) (L : List Int) (hL : 1 ≤ L.length) (hL2 : L.length ≤ 100) (hgb : g ≠ b) (w : World) (hs : Src w b a n cap) (hI : Ints w (some ⟨g, 0, none⟩) L) :
    Calls Try.prog 22 #[.pointer (some ⟨b, 0, none⟩), .slice (some ⟨g, 0, none⟩) L.length L.length] w fun e w' => ∃ x : Int, e = .returned (.int .i64 x) ∧ x ∈ L ∧ Src w' b a n cap ∧ w.grownBy w' (some b) := by
  have hI0 := fun k (hk : k < L.length) => ints_at hI rfl hk
  have hnx := next_any b a n cap hn (L.length : Int) (by omega) w hs
  clear hs hI
  go_enter Try.func22, Try.ntmps22
  go_wp2_with fail
  refine hnx.mono ?_
  rintro e w1 ⟨x, rfl, h0, h1, h2, hs, hg⟩
  obtain ⟨k, rfl⟩ : ∃ k : Nat, x = k := ⟨x.toNat, by omega⟩
  have hk : k < L.length := by have := h2 (by omega); omega
  have hck := grown_cell hg (hI0 k hk) hgb
  have i1 : (k : Int) < (L.length : Int) := by omega
  have HM := Lib.hid (gi_mem hk)
  rw [Nat.zero_add] at hck
  clear hI0 hnx h1 h2
  go_wp2_with fail
  go_ret
  exact ⟨_, rfl, HM.out, hs, hg⟩

theorem pick_n (b : Nat) (a : Option Addr) (n cap : Nat) (hn : n ≤ 4096) (g : Nat) (L : List Int) (K : Nat) (hK : K = L.length) (hL : 1 ≤ K) (hL2 : K ≤ 100) (hgb : g ≠ b) (w : World) (hs : Src w b a n cap) (hI : Ints w (some ⟨g, 0, none⟩) L) :
    Calls Try.prog 22 #[.pointer (some ⟨b, 0, none⟩), .slice (some ⟨g, 0, none⟩) K K] w fun e w' => ∃ x : Int, e = .returned (.int .i64 x) ∧ x ∈ L ∧ Src w' b a n cap ∧ w.grownBy w' (some b) := by
  subst hK; exact pick_any b a n cap hn g L hL hL2 hgb w hs hI
theorem grown_alloc {w w' : World} {r : Option Nat} (h : w.grownBy w' r) (o : Obj) : w.grownBy (w'.alloc o) r := grown_trans h (grown_of_below ((Below.refl _ _).alloc (Nat.le_refl _) o) _)
theorem Src.alloc {w : World} {b : Nat} {a : Option Addr} {n cap : Nat} (h : Src w b a n cap) (o : Obj) : Src (w.alloc o) b a n cap := h.below ((Below.refl _ _).alloc (Nat.le_refl _) o) h.lt

set_option maxHeartbeats 1000000 in
theorem near_any (b : Nat) (a : Option Addr) (n cap : Nat) (hn : n ≤ 4096) (m : Int) (hm : -1 ≤ m ∧ m ≤ 1000000) (w : World) (hs : Src w b a n cap) :
    Calls Try.prog 21 #[.pointer (some ⟨b, 0, none⟩), .int .i64 m] w fun e w' => ∃ x : Int, e = .returned (.int .i64 x) ∧ (-9223372036854775808 ≤ x ∧ x ≤ 9223372036854775807) ∧ Src w' b a n cap ∧ w.grownBy w' (some b) := by
  have h14 := next_any b a n cap hn 14 (by omega) w hs
  clear hs
  go_enter Try.func21, Try.ntmps21
  go_wp2_with fail
  refine h14.mono ?_
  rintro e w1 ⟨x, rfl, h0, h1, h2, hs, hg⟩
  clear h14 h1 h2
  by_cases hx : x = 0
  · subst hx
    have I : Ints (w1.alloc (.cells #[.int .i64 (-1), .int .i64 (m + 1), .int .i64 1099511627776, .int .i64 (-4611686018427387904)] 2)) (some ⟨w1.heap.size, 0, none⟩) [-1, m + 1, 1099511627776, -4611686018427387904] := ints_new w1 _ _
    have hp := pick_n b a n cap hn w1.heap.size _ 4 rfl (by omega) (by omega) (by have := hs.lt; omega) _ (hs.alloc _) I
    clear I
    go_wp2_with fail
    refine hp.mono ?_
    rintro e w2 ⟨y, rfl, hy, hs2, hg2⟩
    clear hp
    have HY : Hid (-9223372036854775808 ≤ y ∧ y ≤ 9223372036854775807) := Lib.hid (by
      simp only [List.mem_cons, List.not_mem_nil, or_false] at hy
      omega)
    clear hy
    go_wp2_with fail
    go_ret
    exact ⟨_, rfl, HY.out, hs2, grown_trans (grown_alloc hg _) hg2⟩
  · have hxx : (x == 0) = false := by simpa using hx
    have hnx := next_any b a n cap hn (m + 1) (by omega) w1 hs
    go_wp2_with fail
    refine hnx.mono ?_
    rintro e w2 ⟨y, rfl, y0, y1, y2, hs2, hg2⟩
    have HY : Hid (-9223372036854775808 ≤ y ∧ y ≤ 9223372036854775807) := Lib.hid (by omega)
    clear hnx y0 y1 y2
    go_wp2_with fail
    go_ret
    exact ⟨_, rfl, HY.out, hs2, grown_trans hg hg2⟩

set_option maxHeartbeats 1000000 in
theorem from_any (a : Option Addr) (n cap : Nat) (hn : n ≤ 4096) (w : World) (hB : Byts w w.heap.size a n) :
    Calls Try.prog 19 #[.slice a n cap] w fun e w' => e = .returned (.pointer (some ⟨w.heap.size, 0, none⟩)) ∧ Src w' w.heap.size a n cap ∧ Below w.heap.size w w' := by
  have HBy := Lib.hid hB
  have E0 : IntKind.u64.wrap (n : Int) = (n : Int) := by unfold IntKind.wrap; simp [IntKind.signed, IntKind.bits]; omega
  have E1 : IntKind.u64.wrap (14111 + (n : Int)) = 14111 + (n : Int) := by unfold IntKind.wrap; simp [IntKind.signed, IntKind.bits]; omega
  clear hB
  go_enter Try.func19, Try.ntmps19
  go_wp2_with fail
  obtain ⟨b, hb⟩ : ∃ b, b = w.heap.size := ⟨_, rfl⟩
  have HSt : Hid (Src (w.alloc (.cells #[.slice a n cap, .int .i64 0, .int .u64 (14111 + (n : Int))] 78)) b a n cap) := Lib.hid (by
    subst hb
    exact ⟨by simp, ⟨0, by omega, by simp⟩, ⟨14111 + n, by omega, by simp⟩, by unfold World.frozen?; rw [heap_alloc_new]; rfl, by unfold World.frozen?; rw [heap_alloc_new]; rfl, by simp, HBy.out.keep fun c o v hc h => kept_cell ((Below.refl w.heap.size w).alloc (Nat.le_refl _) _) h hc⟩)
  have HBl : Hid (Below b w (w.alloc (.cells #[.slice a n cap, .int .i64 0, .int .u64 (14111 + (n : Int))] 78))) := Lib.hid (by subst hb; exact (Below.refl w.heap.size w).alloc (Nat.le_refl _) _)
  have HBb := Lib.hid hb
  rw [← hb]
  clear hb E0 E1
  go_loopw [4] (fun i wr => ∃ k : Nat, k ≤ n ∧ i = .int .i64 (k : Int) ∧ Src wr b a n cap ∧ Below b w wr) (fun i _ => n - (intOf i).toNat)
  case atStart => exact ⟨0, Nat.zero_le _, rfl, HSt.out, HBl.out⟩
  case round =>
    obtain ⟨k, hk, rfl, hs, B⟩ := hrel
    have HS := Lib.hid hs
    have i1 : (0 : Int) ≤ (k : Int) := by omega
    by_cases hlt : k < n
    · have i2 : (k : Int) < (n : Int) := by omega
      have i3 : (k : Int) < 4096 := by omega
      obtain ⟨c0, _, ⟨h, hh, c2⟩, f1, f2, lt, hy⟩ := hs
      rcases hy with h0 | ⟨b', o, rfl, hb', hcs⟩
      · omega
      obtain ⟨y, y0, y1, cy⟩ := hcs k hlt
      have E5 : IntKind.u64.wrap y = y := by unfold IntKind.wrap; simp [IntKind.signed, IntKind.bits]; omega
      obtain ⟨k1, hk1, E1⟩ := u64_nat ((h : Int) * 1099511628211)
      obtain ⟨k2, hk2, E2⟩ := u64_nat ((k1 : Int) + y)
      obtain ⟨k3, hk3, E3⟩ := u64_nat ((k2 : Int) + 251)
      have HK := Lib.hid hk3
      clear hh hk1 hk2 hk3 hcs y0 y1
      go_wp2_with fail
      go_still_tail 15, (by kernel_rfl)
      change wpList _ _ _ _ _ wr.drew
      go_wp2_with fail
      clear E1 E2 E3 E5
      go_roundw
      case rel => exact ⟨k + 1, hlt, by go_num, (HS.out.drewN 1).set k3 HK.out, B.drew.setCell (Nat.le_refl _) _⟩
      case measure => simp [intOf]; omega
    · have i2 : ¬ (k : Int) < (n : Int) := by omega
      go_wp2_with fail
      go_ret
      exact ⟨by rw [← HBb.out]; try rfl, by rw [← HBb.out]; exact HS.out, by rw [← HBb.out]; exact B⟩

end Go.Proofs.Ytamebfbddoeflaa

namespace Go.Proofs.Ytamebfbddoeflaa
open Go.RowKit Cv
set_option linter.unusedVariables false
set_option linter.unusedSimpArgs false

theorem wpList_append_int_at {w : World} {ops : Array Oper} {rest : List Oper} {o : Oper} {a : Act} {Q : Exit → Act → World → Prop} (hgd : o.guard = none) (s x : Operand)
    (ho : o.op = .call { callee := .builtin .append, args := #[s, x], argTypes := #[24, 24] })
    (base : Nat) (v : Value) (L : List Int) (hs : a.eval s = v) (hown : OwnInts w base v L) (b : Nat) (y : Int) (hx : a.eval x = .slice (some ⟨b, 0, none⟩) 1 1) (hc : w.cell? ⟨b, 0, none⟩ = some (.int .i64 y))
    (hlen : L.length ≤ 1073741824) (hbase : base ≤ w.heap.size)
    (h : ∀ v' w', OwnInts w' base v' (L ++ [y]) → w.grownBy w' v.ownBlock → (v'.ownBlock = v.ownBlock ∨ v'.ownBlock = some w.heap.size) → wpList Try.prog ops Q rest (a.put o.dst v') w') : wpList Try.prog ops Q (o :: rest) a w := by
  obtain ⟨i0, hi, hz0, hz1, hz2⟩ := info_parts infoI64
  refine wpList_append_own_at w hgd s x 24 ho base 2 i0 (.int .i64 0) 1 8 Try.underlying24 hi hz0 hz1 hz2 rfl (by decide) v L.length (L.map (Value.int .i64)) hs hown ⟨b, 0, none⟩ 1 1 [.int .i64 y] hx rfl ?_ ?_ (by unfold maxLen; omega) (by omega) hbase ?_
  · intro j u hj
    match j, hj with
    | 0, hj => simp at hj; subst hj; simpa [Addr.add] using hc
  · intro u hu; simp at hu; subst hu; rfl
  · intro v' w' h1 h2 _ h3
    refine h v' w' ?_ h2 h3
    unfold OwnInts
    rw [List.length_append, List.map_append]
    exact h1

/-- a row that holds something lies in a block -/
theorem own_some {w : World} {base : Nat} {v : Value} {L : List Int} (h : OwnInts w base v L) (hL : L ≠ []) : ∃ g cap, v = .slice (some ⟨g, 0, none⟩) L.length cap ∧ v.ownBlock = some g := by
  rcases h.2 with ⟨hv, hn⟩ | ⟨g, cap, cur, hv, _⟩
  · exact absurd (List.eq_nil_of_length_eq_zero hn) hL
  · exact ⟨g, cap, hv, by rw [hv]; rfl⟩

end Go.Proofs.Ytamebfbddoeflaa

namespace Go.Proofs.Ytamebfbddoeflaa
open Go.RowKit Cv
set_option linter.unusedVariables false
set_option linter.unusedSimpArgs false

/-- the row of a value lies between two numbers -/
def RowIn (v : Value) (lo hi : Nat) : Prop := ∀ k, v.ownBlock = some k → lo ≤ k ∧ k < hi

theorem OwnInts.rowIn {w : World} {base : Nat} {v : Value} {T : List Int} (h : OwnInts w base v T) : RowIn v base w.heap.size := World.ownsRow.lt h
theorem RowIn.mono {v : Value} {lo hi lo' : Nat} (h : RowIn v lo hi) (hl : lo' ≤ lo) : RowIn v lo' hi := fun k hk => by have := h k hk; omega
theorem OwnInts.shape {w : World} {base : Nat} {v : Value} {T : List Int} (h : OwnInts w base v T) : ∃ ao cap, v = .slice ao T.length cap := by
  obtain ⟨ao, cap, hv, _⟩ := h.ints
  exact ⟨ao, cap, hv⟩
theorem row_ne_box {v : Value} {lo hi b : Nat} (R : RowIn v lo hi) (h : b < lo ∨ hi ≤ b) : some b ≠ v.ownBlock := fun e => by
  have := R b e.symm; omega
end Go.Proofs.Ytamebfbddoeflaa

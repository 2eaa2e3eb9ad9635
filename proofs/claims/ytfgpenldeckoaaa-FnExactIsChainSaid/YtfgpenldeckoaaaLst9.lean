/-
  Lists of lists that are only read: an argument [][]int64. By an AI agent.
-/
import Derived.Test.YtfgpenldeckoaaaHelp
import Derived.Test.YtfgpenldeckoaaaRwc
namespace Go.Proofs.Ytfgpenldeckoaaa
open Go.RowKit Cv
set_option linter.unusedVariables false
set_option linter.unusedSimpArgs false
set_option maxRecDepth 100000

/-- the rows of a list of lists, wherever they lie -/
def LstsAt (w : World) (ar : Option Addr) (R : List (List Int)) : Prop :=
  ∀ i, i < R.length → ∃ g o a c, ar = some ⟨g, o, none⟩ ∧ g < w.heap.size ∧ w.cell? ⟨g, o + i, none⟩ = some (.slice a (rr R i).length c) ∧ Ints w a (rr R i)
theorem LstsAt.below {w w' : World} {ar : Option Addr} {R : List (List Int)} (h : LstsAt w ar R) (hb : Below w.heap.size w w') : LstsAt w' ar R := fun i hi => by
  obtain ⟨g, o, a, c, e, hg, hc, hI⟩ := h i hi
  exact ⟨g, o, a, c, e, lt_of_below hb hg, kept_cell hb hc hg, hI.below hb⟩

/-- what is left behind k rows -/
def szR (R : List (List Int)) (left : Int) : Nat → Int
  | 0 => szOf R.length left
  | k + 1 => if szR R left k < 0 then -1 else szOf (rr R k).length (szR R left k)
theorem szOf_bd (n : Nat) (left : Int) : szOf n left = -1 ∨ (0 ≤ szOf n left ∧ szOf n left ≤ left) := by
  unfold szOf; split <;> omega
theorem szR_bd (R : List (List Int)) (left : Int) (k : Nat) : szR R left k = -1 ∨ (0 ≤ szR R left k ∧ szR R left k ≤ left) := by
  induction k with
  | zero => exact szOf_bd _ _
  | succ k ih =>
    rw [szR]
    split
    · exact .inl rfl
    · have := szOf_bd (rr R k).length (szR R left k); omega
theorem szR_stop {R : List (List Int)} {left : Int} {k : Nat} (h : szR R left k = -1) (n : Nat) (hk : k ≤ n) : szR R left n = -1 := by
  induction n with
  | zero => rw [show k = 0 from by omega] at h; exact h
  | succ n ih =>
    by_cases e : k = n + 1
    · subst e; exact h
    · rw [szR, ih (by omega)]; rfl
theorem szR_row {R : List (List Int)} {left : Int} (h : 0 ≤ szR R left R.length) (k : Nat) (hk : k < R.length) : ((rr R k).length : Int) ≤ left := by
  have h1 : szR R left (k + 1) ≠ -1 := fun e => by rw [szR_stop e _ hk] at h; omega
  have b := szR_bd R left k
  rw [szR] at h1
  split at h1
  · exact absurd rfl h1
  · unfold szOf at h1; split at h1 <;> omega
theorem szR_len {R : List (List Int)} {left : Int} (h : 0 ≤ szR R left R.length) : (R.length : Int) ≤ left := by
  have h1 : szR R left 0 ≠ -1 := fun e => by rw [szR_stop e _ (Nat.zero_le _)] at h; omega
  rw [szR] at h1
  unfold szOf at h1; split at h1 <;> omega

set_option maxHeartbeats 1500000 in
theorem szInt64SS_any (ar : Option Addr) (R : List (List Int)) (capr : Nat) (left : Int) (w : World) (hn : R.length ≤ 9223372036854775807) (hRn : ∀ i, i < R.length → (rr R i).length ≤ 9223372036854775807) (h0 : 0 ≤ left) (h1 : left ≤ 1048576) (hR : LstsAt w ar R) :
    Calls Try.prog 31 #[.slice ar R.length capr, .int .i64 left] w fun e w' => e = .returned (.int .i64 (szR R left R.length)) ∧ Below w.heap.size w w' := by
  have HB := Lib.hid (szR_bd R left)
  have HRn := Lib.hid hRn
  clear hRn
  by_cases h : left - R.length < 0
  · have HS : Hid (szR R left R.length = -1) := Lib.hid (szR_stop (k := 0) (by rw [szR]; simp [szOf, h]) _ (Nat.zero_le _))
    go_enter Try.func31, Try.ntmps31
    go_wp2_with fail
    go_ret
    exact ⟨ret_int HS.out.symm, Below.refl _ _⟩
  · have H0 : Hid (left - R.length = szR R left 0) := Lib.hid (by rw [szR]; simp [szOf, h])
    go_enter Try.func31, Try.ntmps31
    go_wp2_with fail
    go_loopw [1, 5] (fun v i wr => ∃ k : Nat, k ≤ R.length ∧ v = .int .i64 (szR R left k) ∧ i = .int .i64 k ∧ Hid (0 ≤ szR R left k) ∧ Below w.heap.size w wr) (fun _ i _ => R.length - (intOf i).toNat)
    case atStart => exact ⟨0, Nat.zero_le _, by rw [H0.out], rfl, Lib.hid (by rw [← H0.out]; omega), Below.refl _ _⟩
    case round =>
      obtain ⟨k, hk, rfl, rfl, HA, B⟩ := hrel
      by_cases hlt : k < R.length
      · obtain ⟨g, o, a, c, rfl, hg, hc, hI⟩ := (hR.below B) k hlt
        have hrn := HRn.out k hlt
        have hb := HB.out k
        have ha := HA.out
        have HN : Hid (szR R left (k + 1) = szOf (rr R k).length (szR R left k)) := Lib.hid (by rw [szR, if_neg (by omega)])
        have HB1 := Lib.hid (HB.out (k + 1))
        obtain ⟨lk, hlk⟩ : ∃ lk, lk = szR R left k := ⟨_, rfl⟩
        rw [← hlk] at hb ha HN ⊢
        clear hlk
        have HSt : Hid (szR R left (k + 1) = -1 → szR R left R.length = -1) := Lib.hid fun e => szR_stop e _ hlt
        by_cases hz : szOf (rr R k).length lk < 0
        · have HF : Hid (szR R left R.length = -1) := Lib.hid (HSt.out (by have := HB1.out; rw [HN.out] at this ⊢; omega))
          go_wp2_with fail
          refine (szInt64S_any _ _ _ _ _ hrn (by omega) (by omega)).mono ?_
          rintro e w2 ⟨rfl, rfl⟩
          go_wp2_with fail
          go_ret
          exact ⟨ret_int HF.out.symm, B⟩
        · have HP : Hid (0 ≤ szR R left (k + 1)) := Lib.hid (by rw [HN.out]; omega)
          go_wp2_with fail
          refine (szInt64S_any _ _ _ _ _ hrn (by omega) (by omega)).mono ?_
          rintro e w2 ⟨rfl, rfl⟩
          go_wp2_with fail
          go_roundw
          case rel => exact ⟨k + 1, by omega, by rw [HN.out], by go_num, HP, B⟩
          case measure => simp [intOf]; omega
      · have ek : Hid (k = R.length) := Lib.hid (by omega)
        rw [ek.out]
        go_wp2_with fail
        go_ret
        exact ⟨rfl, B⟩

theorem infoSl9 : (Try.prog.info? 22).map (fun i => (i.zero, i.size, i.bytes)) = some (some (.slice none 0 0), 1, 24) := by kernel_rfl

set_option maxHeartbeats 2000000 in
theorem toInt64SS_any (ar : Option Addr) (R : List (List Int)) (capr : Nat) (w : World) (hn : R.length ≤ 1048576) (hRn : ∀ i, i < R.length → (rr R i).length ≤ 1048576) (hR : LstsAt w ar R) :
    Calls Try.prog 33 #[.slice ar R.length capr] w fun e w' => ∃ g, e = .returned (.slice (some ⟨g, 0, none⟩) R.length R.length) ∧ OwnRws w' w.heap.size w'.heap.size (.slice (some ⟨g, 0, none⟩) R.length R.length) R ∧ Below w.heap.size w w' := by
  obtain ⟨i0, hi, hz0, hz1, hz2⟩ := info_parts infoSl9
  have HRn := Lib.hid hRn
  obtain ⟨n, hnn⟩ : ∃ n, n = R.length := ⟨_, rfl⟩
  have HN := Lib.hid hnn
  rw [← hnn] at hn ⊢
  clear hRn hnn
  go_enter Try.func33, Try.ntmps33
  go_wp2_with (at_make; refine wpList_make_full _ rfl _ _ 46 rfl w.heap.size 22 i0 (.slice none 0 0) 1 Try.underlying46 hi hz0 hz1 .i64 .i64 _ _ n rfl rfl rfl rfl (by rw [hz2]; omega) (by unfold maxLen; omega) (Nat.le_refl _) ?_; intro w2 hown hgrow)
  have hR0 := OwnRws.made (hi := w2.heap.size) hown (fun k hk => (World.ownsRow.lt hown k hk).2)
  have B1 : Below w.heap.size w w2 := below_grown0 hgrow
  clear hown hgrow hi hz0 hz1 hz2
  go_loopw [4] (fun i wr => ∃ (k : Nat) (Q : List (List Int)), k ≤ n ∧ i = .int .i64 k ∧ OwnRws wr w.heap.size wr.heap.size (.slice (some ⟨w.heap.size, 0, none⟩) n n) Q ∧ Hid (Q.length = n ∧ ∀ j, j < k → rr Q j = rr R j) ∧ Below w.heap.size w wr) (fun i _ => n - (intOf i).toNat)
  case atStart => exact ⟨0, _, Nat.zero_le _, rfl, hR0, Lib.hid ⟨by simp, fun j hj => by omega⟩, B1⟩
  case round =>
    clear hR0 B1
    obtain ⟨k, Q, hk, rfl, hQ, HR, B1⟩ := hrel
    by_cases hlt : k < n
    · obtain ⟨g, o, a, c, rfl, hg, hc, hI⟩ := (hR.below B1) k (by rw [← HN.out]; exact hlt)
      have hrn := HRn.out k (by rw [← HN.out]; exact hlt)
      obtain ⟨T, hT⟩ : ∃ T, T = rr R k := ⟨_, rfl⟩
      rw [← hT] at hc hI hrn
      have HT := Lib.hid hT
      clear hT
      go_wp2_with fail
      refine (toInt64S_any a T c _ hrn hI).mono ?_
      rintro e w5 ⟨b5, rfl, own5, hb5⟩
      have hR5 := hQ.below hb5
      obtain ⟨⟨z5, hz5⟩, hf5, _, _⟩ := hR5.slot (i := k) (by rw [HR.out.1]; exact hlt)
      have B5 := B1.trans (hb5.mono B1.size)
      have hR6 := hR5.put (i := k) (by rw [HR.out.1]; exact hlt) (own5.rebase (base' := w.heap.size) B1.size) (fun x hx => (World.ownsRow.lt own5 x hx).1)
      clear hb5 own5 hR5 hQ hc hI
      go_wp2_with fail
      go_roundw
      case rel =>
        refine ⟨k + 1, _, by omega, by go_num, hR6.rebase (Nat.le_refl _) (by simp), Lib.hid ⟨by rw [List.length_set]; exact HR.out.1, fun j hj => ?_⟩, B5.setCell (by simp) _⟩
        rw [rr_set _ _ _ _ (by rw [HR.out.1]; exact hlt)]
        by_cases e : j = k
        · rw [if_pos e, e, HT.out]
        · rw [if_neg e]; exact HR.out.2 j (by omega)
      case measure => simp [intOf]; omega
    · have HK := Lib.hid (show k = n by omega)
      have HF : Hid (Q = R) := Lib.hid (rr_ext (by rw [HR.out.1, HN.out]) fun j hj => by
        rw [HR.out.1] at hj
        exact HR.out.2 j (by rw [HK.out]; exact hj))
      rw [HF.out] at hQ
      go_wp2_with fail
      go_ret
      exact ⟨_, rfl, hQ, B1⟩

set_option maxHeartbeats 1000000 in
theorem eqInt64SS_same9 (a a' : Option Addr) (c c' lo hi lo' hi' : Nat) (R : List (List Int)) (w : World) (hR : R.length ≤ 1048576 ∧ ∀ i, (rr R i).length ≤ 1048576) (h : OwnRws w lo hi (.slice a R.length c) R) (h' : RdRws w lo' hi' (.slice a' R.length c') R) :
    Calls Try.prog 35 #[.slice a R.length c, .slice a' R.length c'] w fun e w' => e = .returned (.bool true) ∧ Below w.heap.size w w' := by
  obtain ⟨hl, hr⟩ := hR
  have HR := Lib.hid hr
  clear hr
  go_enter Try.func35, Try.ntmps35
  go_wp2_with fail
  go_loopw [5] (fun i wr => ∃ k : Nat, k ≤ R.length ∧ i = .int .i64 k ∧ Below w.heap.size w wr) (fun i _ => R.length - (intOf i).toNat)
  case atStart => exact ⟨0, Nat.zero_le _, rfl, Below.refl _ _⟩
  case round =>
    obtain ⟨k, hk, rfl, B⟩ := hrel
    by_cases hlt : k < R.length
    · obtain ⟨g, z, rfl, hg, hc, ho, _⟩ := h.at hlt
      obtain ⟨g', z', rfl, hg', hc', ho'⟩ := h'.at hlt
      replace hc := kept_cell B hc hg
      replace hc' := kept_cell B hc' hg'
      obtain ⟨az, cz, hz, hI⟩ := ho.ints
      obtain ⟨az', cz', hz', hI'⟩ := ho'.ints
      subst hz
      subst hz'
      have hL := HR.out k
      obtain ⟨L, hLe⟩ : ∃ L, L = rr R k := ⟨_, rfl⟩
      rw [← hLe] at hc hc' hI hI' hL
      have hgw : g < wr.heap.size := Nat.lt_of_lt_of_le hg B.size
      have hgw' : g' < wr.heap.size := Nat.lt_of_lt_of_le hg' B.size
      have i1 : (0 : Int) ≤ (k : Int) := by omega
      have i2 : (k : Int) < (R.length : Int) := by omega
      clear ho ho' hLe
      go_wp2_with fail
      go_region_held3 (fun w' => w'.cell? ⟨g, k, none⟩ = some (.slice az L.length cz) ∧ w'.cell? ⟨g', k, none⟩ = some (.slice az' L.length cz')) (first | exact ⟨hc, hc'⟩ | exact ⟨kept_cell hb hc hgw, kept_cell hb hc' hgw'⟩) ((go_at_call 17; refine (eqInt64S_same az az' L cz cz' _ (by omega) (hI.below B.drew) (hI'.below B.drew)).mono ?_; rintro e w4 ⟨rfl, hb'⟩; have hb : Below wr.heap.size wr w4 := (Below.refl wr.heap.size wr).drew.trans hb'))
      replace B := B.trans (hb.mono B.size)
      clear hb hb' hc hc'
      go_wp2_with fail
      go_roundw
      case rel => exact ⟨k + 1, by omega, by go_num, B⟩
      case measure => simp [intOf]; omega
    · go_wp2_with fail
      go_ret
      exact ⟨rfl, B⟩


theorem rd_of_rws {w : World} {lo hi : Nat} {v : Value} {R : List (List Int)} (h : OwnRws w lo hi v R) : RdRws w lo hi v R := by
  obtain ⟨hs, h1, h2, h3, h4, _⟩ := h
  refine ⟨hs, h1, h2, h3, fun i hi => ?_⟩
  obtain ⟨x, hx, ho, _, hk⟩ := h4 i hi
  exact ⟨x, hx, ho, hk⟩

end Go.Proofs.Ytfgpenldeckoaaa

/-
  The contracts of SpaceText. By an AI agent.
-/
import Derived.Test.YtcbkmmadejbbpaaCode2
import Derived.Test.YtcbkmmadejbbpaaSpace
import Derived.Laws.IdiomStrings
namespace Go.Proofs.Ytcbkmmadejbbpaa
open Go.RowKit Cv
set_option linter.unusedVariables false
set_option linter.unusedSimpArgs false
set_option maxRecDepth 100000

/-- the byte of a digit -/
def bOf (d : Int) : UInt8 := UInt8.ofNat (48 + d).toNat
theorem bOf_nat {d : Int} (h : 0 ≤ d) (h2 : d ≤ 9) : ((bOf d).toNat : Int) = 48 + d := by
  unfold bOf
  rw [UInt8.toNat_ofNat']
  omega
/-- the text of a digit -/
def dB (d : Int) : ByteArray := ⟨#[bOf d]⟩
/-- the bytes of digits -/
def bts (L : List Int) (k : Nat) : List UInt8 := (List.range k).map fun i => bOf (gi L i)
theorem bts_len (L : List Int) (k : Nat) : (bts L k).length = k := by simp [bts]
/-- the text of digits -/
def txt (L : List Int) : Nat → ByteArray
  | 0 => ⟨#[]⟩
  | k + 1 => txt L k ++ dB (gi L k)
theorem txt_bts (L : List Int) (k : Nat) : txt L k = ⟨(bts L k).toArray⟩ := by
  induction k with
  | zero => rfl
  | succ k ih =>
    have e : bts L (k + 1) = bts L k ++ [bOf (gi L k)] := by simp [bts, List.range_succ]
    rw [e, txt, ih, dB]
    apply ByteArray.ext
    simp
theorem txt_size (L : List Int) (k : Nat) : (txt L k).size = k := by
  rw [txt_bts]
  show (bts L k).toArray.size = k
  simp [bts_len]

set_option maxHeartbeats 1000000 in
theorem l01Dec_any (d : Int) (h0 : 0 ≤ d) (h9 : d ≤ 9) (w : World) :
    Calls Try.prog 123 #[.int .i64 d] w fun e w' => e = .returned (.string (dB d)) ∧ Below w.heap.size w w' := by
  have hb := bOf_nat h0 h9
  have e1 : IntKind.u8.wrap (48 + d) = 48 + d := by simp [IntKind.wrap, IntKind.bits, IntKind.signed]; omega
  have hcv := run_convert_bytes_back (P := Try.prog) (w.alloc (.cells #[.int .u8 (48 + d)] 5)) 119 9 5 ⟨w.heap.size, 0, none⟩ 1 [bOf d] Try.underlying119 Try.underlying5 Try.underlying9 (fun j hj => by
    have : j = 0 := by simp at hj; exact hj
    subst this
    simp [hb, Addr.add])
  rw [show [bOf d].length = 1 from rfl] at hcv
  go_enter Try.func123, Try.ntmps123
  go_wp2
  go_ret
  exact ⟨rfl, by go_grown⟩

theorem infoU8 : (Try.prog.info? 5).map (fun i => (i.zero, i.size, i.bytes)) = some (some (.int .u8 0), 1, 1) := by kernel_rfl

set_option maxHeartbeats 1000000 in
theorem digitsText_any (a : Option Addr) (L : List Int) (c : Nat) (hl : L.length ≤ 16777216) (hbd : ∀ i, i < L.length → 0 ≤ gi L i ∧ gi L i ≤ 9) (w : World) (hL : Ints w a L) :
    Calls Try.prog 96 #[.slice a L.length c] w fun e w' => e = .returned (.string (txt L L.length)) ∧ Below w.heap.size w w' := by
  obtain ⟨i0, hi, hz0, hz1, hz2⟩ := info_parts infoU8
  have HB := Lib.hid hbd
  clear hbd
  go_enter Try.func96, Try.ntmps96
  go_wp2_with (at_make; refine wpList_make_full _ rfl _ _ 119 rfl w.heap.size 5 i0 (.int .u8 0) 1 Try.underlying119 hi hz0 hz1 .i64 .i64 _ _ L.length rfl rfl rfl rfl (by rw [hz2]; omega) (by unfold maxLen; omega) (by simp) ?_; intro w1 hown hgrow)
  have B1 := below_grown0 hgrow
  obtain ⟨V0, hV0⟩ : ∃ V0, V0 = (madeCells (Value.int .u8 0).cells (L.length * 1)).toList := ⟨_, rfl⟩
  rw [← hV0] at hown
  have hVl : V0.length = L.length := by simpa using hown.1
  clear hgrow hV0
  go_loopw [11] (fun i wr => ∃ (k : Nat) (V : List Value), k ≤ L.length ∧ i = .int .i64 k ∧ wr.ownsRow w.heap.size 5 1 (.slice (some ⟨w.heap.size, 0, none⟩) L.length L.length) L.length V ∧ Hid (V.length = L.length ∧ ∀ j, j < k → V[j]? = some (.int .u8 ((bOf (gi L j)).toNat : Int))) ∧ Below w.heap.size w wr) (fun i _ => L.length - (intOf i).toNat)
  case atStart => exact ⟨0, V0, Nat.zero_le _, rfl, hown, Lib.hid ⟨hVl, fun j h => by omega⟩, B1⟩
  case round =>
    clear hown hVl B1
    obtain ⟨k, V, hk, rfl, hown, HV, B⟩ := hrel
    by_cases hlt : k < L.length
    · obtain ⟨b, o, rfl, hbl, hc⟩ := hL.at hlt
      have hck : wr.cell? ⟨b, o + k, none⟩ = some (.int .i64 (gi L k)) := kept_cell B (hc k hlt) hbl
      obtain ⟨x1, x2⟩ := HB.out k hlt
      have E1 : IntKind.u8.wrap (gi L k) = gi L k := by simp [IntKind.wrap, IntKind.bits, IntKind.signed]; omega
      have E2 : IntKind.u8.wrap (48 + gi L k) = 48 + gi L k := by simp [IntKind.wrap, IntKind.bits, IntKind.signed]; omega
      obtain ⟨vk, hcellV⟩ : ∃ vk, wr.cell? ⟨w.heap.size, k, none⟩ = some vk := by
        rw [hown.cellAt k (by omega)]
        exact ⟨_, List.getElem?_eq_getElem (by rw [HV.out.1]; exact hlt)⟩
      have hfreeV := hown.frozenAt k
      have st := (hown.stored k (.int .u8 (48 + gi L k))).1
      clear hc
      go_wp2_with fail
      go_roundw
      case rel =>
        refine ⟨k + 1, _, by omega, by go_num, st, Lib.hid ⟨by rw [List.length_set]; exact HV.out.1, fun j hj => ?_⟩, B.setCell (by simp) _⟩
        by_cases e : j = k
        · subst e; rw [List.getElem?_set_self (by rw [HV.out.1]; exact hlt), bOf_nat x1 x2]
        · rw [List.getElem?_set_ne (fun h => e h.symm)]; exact HV.out.2 j (by omega)
      case measure => simp [intOf]; omega
    · have ek : k = L.length := by omega
      have hcv := run_convert_bytes_back (P := Try.prog) wr 119 9 5 ⟨w.heap.size, 0, none⟩ L.length (bts L L.length) Try.underlying119 Try.underlying5 Try.underlying9 (fun j hj => by
        rw [bts_len] at hj
        rw [Addr.add_lit, Nat.zero_add, hown.cellAt j (by omega), HV.out.2 j (by omega)]
        simp [bts])
      rw [bts_len, ← txt_bts] at hcv
      go_wp2_with fail
      go_ret
      exact ⟨rfl, B⟩

def vTxt (S : List Int) : ByteArray := if isSp S = true then txt S S.length else ⟨#[]⟩
theorem ret_si {a b : ByteArray} {c d : Int} (h1 : a = b) (h2 : c = d) : Ending.returned (.tuple #[.string a, .int .i64 c]) = .returned (.tuple #[.string b, .int .i64 d]) := by rw [h1, h2]

end Go.Proofs.Ytcbkmmadejbbpaa

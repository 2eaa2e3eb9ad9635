/-
  The contracts of SpaceText. By an AI agent.
-/
import Derived.Test.YtdkgbfmgpmmliaaCode2
import Derived.Test.YtdkgbfmgpmmliaaSpace
import Derived.Laws.IdiomStrings
namespace Go.Proofs.Ytdkgbfmgpmmliaa
open Go.RowKit Cv
set_option linter.unusedVariables false
set_option linter.unusedSimpArgs false
set_option maxRecDepth 100000

/-- the byte of a digit -/
def bOf (d : Int) : UInt8 := UInt8.ofNat (48 + d).toNat
theorem bOf_nat {d : Int} (h : 0 ≤ d) (h2 : d ≤ 9) : ((bOf d).toNat : Int) = 48 + d := by
  unfold bOf
  rw [UInt8.toNat_ofNat']
  omega
/-- the text of a digit -/
def dB (d : Int) : ByteArray := ⟨#[bOf d]⟩
/-- the bytes of digits -/
def bts (L : List Int) (k : Nat) : List UInt8 := (List.range k).map fun i => bOf (gi L i)
theorem bts_len (L : List Int) (k : Nat) : (bts L k).length = k := by simp [bts]
/-- the text of digits -/
def txt (L : List Int) : Nat → ByteArray
  | 0 => ⟨#[]⟩
  | k + 1 => txt L k ++ dB (gi L k)
theorem txt_bts (L : List Int) (k : Nat) : txt L k = ⟨(bts L k).toArray⟩ := by
  induction k with
  | zero => rfl
  | succ k ih =>
    have e : bts L (k + 1) = bts L k ++ [bOf (gi L k)] := by simp [bts, List.range_succ]
    rw [e, txt, ih, dB]
    apply ByteArray.ext
    simp
theorem txt_size (L : List Int) (k : Nat) : (txt L k).size = k := by
  rw [txt_bts]
  show (bts L k).toArray.size = k
  simp [bts_len]

theorem infoU8 : (Try.prog.info? 5).map (fun i => (i.zero, i.size, i.bytes)) = some (some (.int .u8 0), 1, 1) := by kernel_rfl

def vTxt (S : List Int) : ByteArray := if isSp S = true then txt S S.length else ⟨#[]⟩
theorem ret_si {a b : ByteArray} {c d : Int} (h1 : a = b) (h2 : c = d) : Ending.returned (.tuple #[.string a, .int .i64 c]) = .returned (.tuple #[.string b, .int .i64 d]) := by rw [h1, h2]

end Go.Proofs.Ytdkgbfmgpmmliaa

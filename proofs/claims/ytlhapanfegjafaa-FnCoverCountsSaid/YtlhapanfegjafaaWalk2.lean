/-
  The closure over the words of a ball: what it yields. By an AI agent.
-/
import Derived.Test.YtlhapanfegjafaaWalk
import Derived.Test.YtlhapanfegjafaaWW
namespace Go.Proofs.Ytlhapanfegjafaa
open Go.RowKit Go.Shelf Cv
set_option linter.unusedVariables false
set_option linter.unusedSimpArgs false
set_option maxRecDepth 100000

attribute [local go_sem] Oper.semAt_some

set_option maxHeartbeats 2000000 in
theorem all_stops (F : Fence) (hd : F.depth = none) (hw : F.fn 73) (h1 : F.fn 72) (hro : F.round = none) (n : Nat) (S : List Int) (hSp : Sp S) (x r : Int) (hr0 : 0 ≤ r) (hr : r ≤ 8) (ao : Option Addr) (cap Bb g : Nat) (D : Array Value) (w0 w : World) (hw0 : Below w0.heap.size w0 w)
    (hB : w.heap[Bb]? = some (.cells #[.slice ao S.length cap, .slice (some ⟨g, 0, none⟩) S.length S.length, .int .i64 r] 102 (0, 0))) (hS : Ints w0 ao S) (hG : w.heap[g]? = some (.cells D 2 (0, 0))) (hD : ∀ i, i < S.length → D[i]? = some (.int .i64 (dig S x i))) :
    SeqStopsK F n Try.prog 72 #[.pointer (some ⟨Bb, 0, none⟩)] (encW (S := S) (x := x) (r := r)) (KpB w0.heap.size g) (fun ys => Hid (ys.map Subtype.val = ballP S x r)) (fun _ => True) (ballP S x r).length w := fun l J Jx W hW hJ hJx hY h0 => by
  have hdd : ∀ k : Nat, (F.depth.isSome = true → 1 ≤ k) := fun k h => by rw [hd] at h; cases h
  have hbb := hW.block Bb (Array.getElem?_eq_some_iff.1 hB).1
  rw [hB] at hbb
  obtain ⟨b0, b1, b2⟩ := box_cells hbb
  have hgg := hW.block g (Array.getElem?_eq_some_iff.1 hG).1
  rw [hG] at hgg
  have HWB := Lib.hid (walk_ball S hSp.bd x r hr0)
  have hc := walk_in F hd hw hro l W.heap.size (ballP S x r).length w0 S hSp x r hr ao g cap S.length D hS hD (Nat.le_trans hw0.size hW.size) J Jx hJ (fun m pre p W hj hl => yield_any hd m (hY pre p W hj hl)) S.length (n - 1) 0 0 0 0 [] W (Lib.hid rfl) (by omega) (way_start S x r hr0) (hw0.trans (hW.mono hw0.size)) hgg (Nat.le_refl _) h0 (by rw [HWB.out]; simp)
  clear hB hbb hY h0 hW hJ hJx hgg hG hD
  refine callsIn_of_wp Try.func72 rfl h1 ?_ hro
  simp only [Try.ntmps72, List.size_toArray, List.length_cons, List.length_nil, Nat.reduceAdd, Nat.reduceSub, Array.replicate_succ, Array.replicate_zero, List.push_toArray, List.append_toArray, List.nil_append, List.cons_append]
  gi_wp2_with ((try refine ⟨hdd _, ?_⟩); gi_at_call 73; refine hc.mono ?_; clear hc; rintro e W' (⟨rfl, ys, HY, hJ', _⟩ | ⟨rfl, q, hx⟩))
  · go_end0
    exact ⟨⟨_, rfl⟩, .inl ⟨ys, Lib.hid (HY.out.trans HWB.out), by simpa using hJ'⟩⟩
  · go_end0
    exact ⟨⟨_, rfl⟩, .inr ⟨q, trivial, hx⟩⟩

end Go.Proofs.Ytlhapanfegjafaa

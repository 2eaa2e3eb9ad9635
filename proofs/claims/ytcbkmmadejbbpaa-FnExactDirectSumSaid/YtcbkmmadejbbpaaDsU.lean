/-
  The contract of the model of DirectSum. By an AI agent.
-/
import Derived.Test.YtcbkmmadejbbpaaDsS
namespace Go.Proofs.Ytcbkmmadejbbpaa
open Go.RowKit Cv
set_option linter.unusedVariables false

theorem spec_DirectSum (as0 : Addr) (S : List Int) (cap : Nat) (hn : S.length ≤ 4294967296) (ac : Addr) (C : List Int) (capc : Nat) (hnc : C.length ≤ 4294967296) (ax : Addr) (X : List Int) (capx : Nat) (hnx : X.length ≤ 4294967296) (ad : Addr) (D : List Int) (capd : Nat) (hnd : D.length ≤ 4294967296) (w : World) (hS : Ints w (some as0) S) (hC : Ints w (some ac) C) (hX : Ints w (some ax) X) (hD : Ints w (some ad) D) :
    Calls Try.prog 13 #[.agg #[.slice (some as0) S.length cap], .slice (some ac) C.length capc, .agg #[.slice (some ax) X.length capx], .slice (some ad) D.length capd] w fun e w' => ∃ m vs v, e = .returned (.tuple #[.agg #[vs], v, .int .i64 (eDs S C X D)]) ∧ w.heap.size ≤ m ∧ RowIn vs w.heap.size m ∧ OwnInts w' w.heap.size vs (vDsS S C X D) ∧ OwnInts w' m v (vDsC S C X D) ∧ m ≤ w'.heap.size ∧ Below w.heap.size w w' := by
  cases hs : isSp S with
  | false => exact spec_DirectSum_e1 as0 S cap hn ac C capc hnc ax X capx hnx ad D capd hnd w hS hC hX hD hs
  | true =>
    cases hx : isSp X with
    | false => exact spec_DirectSum_e2 as0 S cap hn ac C capc hnc ax X capx hnx ad D capd hnd w hS hC hX hD hs hx
    | true =>
      cases hc : codeB S C with
      | false => exact spec_DirectSum_e3 as0 S cap hn ac C capc hnc ax X capx hnx ad D capd hnd w hS hC hX hD hs hx hc
      | true =>
        cases hd : codeB X D with
        | false => exact spec_DirectSum_e4 as0 S cap hn ac C capc hnc ax X capx hnx ad D capd hnd w hS hC hX hD hs hx hc hd
        | true =>
          cases hsx : isSp (S ++ X) with
          | false => exact spec_DirectSum_e5 as0 S cap hn ac C capc hnc ax X capx hnx ad D capd hnd w hS hC hX hD hs hx hc hd hsx
          | true => exact spec_DirectSum_ok as0 S cap hn ac C capc hnc ax X capx hnx ad D capd hnd w hS hC hX hD hs hx hc hd hsx

end Go.Proofs.Ytcbkmmadejbbpaa

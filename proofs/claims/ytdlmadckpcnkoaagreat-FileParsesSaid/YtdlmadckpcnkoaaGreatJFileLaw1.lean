/- Law 04's FileParses, on both readers' contracts. -/
import Derived.Test.YtdlmadckpcnkoaaGreatJFileParses
import Derived.Test.YtdlmadckpcnkoaaGreatJFileRef8
namespace Go.Proofs.YtdlmadckpcnkoaaGreat
open Go.RowKit Go

theorem FileParses_all (v : Value) (l : Bs) (w : World) (h : RdB w v l) :
    Calls Tryz.prog 3 #[v] w fun e w' => e = .returned (.bool true) ∧ Below w.heap.size w w' :=
  FileParses_walk (lhid fun v l w h => rparse_any v l w h) v l w h
end Go.Proofs.YtdlmadckpcnkoaaGreat

/-
  ScanTops walked.
-/
import Derived.Test.YtbpekloodjimoaaScY
import Derived.Test.YtbpekloodjimoaaScZ
namespace Go.Proofs.Ytbpekloodjimoaa
open Go.RowKit Go.Shelf

theorem scanTops_walk (a : Option Addr) (n c : Nat) (l : List Sp) (a3 : Option Addr) (n3 c3 : Nat) (on : List Sp) (k : Int) (w : World) (hL : Arg w a n c l) (hO : Arg w a3 n3 c3 on) (_ : (Lit.int .i64 k).wf = true) :
    Calls Try.prog 5 #[.slice a n c, .slice a3 n3 c3, .int .i64 k] w (TruePost w) := scanTops_walkOf rtop_any a n c l a3 n3 c3 on k w hL hO
end Go.Proofs.Ytbpekloodjimoaa

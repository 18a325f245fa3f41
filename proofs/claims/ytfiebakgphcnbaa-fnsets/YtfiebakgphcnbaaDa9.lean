/-
  What FnSets calls, by letters.
-/
import Derived.Test.YtfiebakgphcnbaaDa7
import Derived.Test.YtfiebakgphcnbaaDa8
import Derived.Test.YtfiebakgphcnbaaRw1
namespace Go.Proofs.Ytfiebakgphcnbaa.Rl
set_option maxRecDepth 8000
open Go Go.RowKit
open Num Word Pl Rp

theorem unionL_any (x y : Int) (a a' : Option Addr) (b off cap b' off' cap' : Nat) (Q P : List Rm) (w : World) (h : Rd w a b off Q) (h' : Rd w a' b' off' P) (hc : Q.length ≤ cap) (hc' : P.length ≤ cap') (ar : Int) (X : List RowL) (hA : MA stAll x (said Q) y (said P) ar X 0) :
    Calls Try.prog 21 #[.agg #[.int .i64 x, .slice a Q.length cap], .agg #[.int .i64 y, .slice a' P.length cap']] w (ResD w ar X (.bool true)) :=
  (unionI_any x y a a' b off cap b' off' cap' Q P w h h' hc hc' ar X 0 hA).mono fun _ _ r => resD_of r (small_ma hA).1
theorem minusL_any (x y : Int) (a a' : Option Addr) (b off cap b' off' cap' : Nat) (Q P : List Rm) (w : World) (h : Rd w a b off Q) (h' : Rd w a' b' off' P) (hc : Q.length ≤ cap) (hc' : P.length ≤ cap') (ar : Int) (X : List RowL) (hA : MA stOne x (said Q) y (said P) ar X 0) :
    Calls Try.prog 23 #[.agg #[.int .i64 x, .slice a Q.length cap], .agg #[.int .i64 y, .slice a' P.length cap']] w (ResD w ar X (.bool true)) :=
  (minusI_any x y a a' b off cap b' off' cap' Q P w h h' hc hc' ar X 0 hA).mono fun _ _ r => resD_of r (small_ma hA).1
theorem bothL_any (x y : Int) (a a' : Option Addr) (b off cap b' off' cap' : Nat) (Q P : List Rm) (w : World) (h : Rd w a b off Q) (h' : Rd w a' b' off' P) (hc : Q.length ≤ cap) (hc' : P.length ≤ cap') (ar : Int) (X : List RowL) (hA : MA stTwo x (said Q) y (said P) ar X 0) :
    Calls Try.prog 24 #[.agg #[.int .i64 x, .slice a Q.length cap], .agg #[.int .i64 y, .slice a' P.length cap']] w (ResD w ar X (.bool true)) :=
  (bothI_any x y a a' b off cap b' off' cap' Q P w h h' hc hc' ar X 0 hA).mono fun _ _ r => resD_of r (small_ma hA).1
theorem wrap3 {a b c f : Nat} (h : (a : Int) + (b : Int) + (c : Int) = (f : Int)) (hb : f ≤ 300) : wrap64 (wrap64 ((a : Int) + (b : Int)) + (c : Int)) = (f : Int) := by
  have e : ∀ n : Int, 0 ≤ n → n ≤ 300 → wrap64 n = n := fun n h0 h1 => by unfold wrap64; omega
  rw [e ((a : Int) + (b : Int)) (by omega) (by omega), e _ (by omega) (by omega), h]
theorem unionM_any (x y : Int) (a a' : Option Addr) (b off cap b' off' cap' : Nat) (Q P : List Rm) (w : World) (h : Rd w a b off Q) (h' : Rd w a' b' off' P) (hc : Q.length ≤ cap) (hc' : P.length ≤ cap') (ar : Int) (X : List RowL) (c : Int) (hA : MA stAll x (said Q) y (said P) ar X c) :
    Calls Try.prog 21 #[.agg #[.int .i64 x, .slice a Q.length cap], .agg #[.int .i64 y, .slice a' P.length cap']] w (ResD w ar X (.bool (c == 0))) :=
  (unionI_any x y a a' b off cap b' off' cap' Q P w h h' hc hc' ar X c hA).mono fun _ _ r => resD_of r (small_ma hA).1

end Go.Proofs.Ytfiebakgphcnbaa.Rl

/-
  A slot put into a list of slots (plain).
-/
import Derived.Test.YtkpchlojapkimaaGreatHn
namespace Go.Proofs.YtkpchlojapkimaaGreat.Hn
theorem p1 {α : Type} (l : List α) (i : Nat) (a : α) : l.toArray.setIfInBounds i a = (l.set i a).toArray := List.setIfInBounds_toArray ..
theorem p2 {α : Type} (x : α) (l : List α) (a : α) : (x :: l).set 0 a = a :: l := List.set_cons_zero ..
theorem p3 {α : Type} (x : α) (l : List α) (n : Nat) (a : α) : (x :: l).set (n + 1) a = x :: l.set n a := List.set_cons_succ ..
end Go.Proofs.YtkpchlojapkimaaGreat.Hn

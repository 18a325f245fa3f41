/-
  What the laws FnIp and FnSum need: a datagram written with its room, its sum.
-/
import Derived.Test.YtjbjlmaeaajlhaaDi
import Derived.Test.YtjbjlmaeaajlhaaIb
namespace Go.Proofs.Ytjbjlmaeaajlhaa.Fi
open Go Go.RowKit
open Num Rw Mk Un Put Pl App Pf Pb Ipl Hp Hd Su

/-- The bytes are written. -/
def Written (w : World) (L : List Int) (e : Ending) (w' : World) : Prop :=
  ∃ g cap, e = .returned (.tuple #[.slice (some ⟨g, 0, none⟩) L.length cap, .bool true]) ∧ Wt w' (some ⟨g, 0, none⟩) g L ∧ L.length ≤ cap ∧ w.heap.size ≤ g ∧ Below w.heap.size w w'

theorem writes (t p s d : Int) (a : Option Addr) (b off cap : Nat) (l : List Int) (w : World) (h : Rd w a b off l) (hok : Ik.okI t p s d l.length = true) (L : List Int) (hL : L = ipL t p s d l) :
    Calls Try.prog 18 #[.agg #[.int .i64 t, .int .i64 p, .int .i64 s, .int .i64 d, .slice a l.length cap]] w (Written w L) := by
  subst hL
  have hl := (Ik.okI_parts hok).2.2.2.2
  refine (Ib.implYes t p s d a b off cap l w h hok).mono ?_
  rintro e w' ⟨v, rfl, hv, hb⟩
  obtain ⟨g, cap, rfl, hg, hwt, hc⟩ := room hv (by rw [ip_len]; omega) (ip_byt t p s d h.byt)
  exact ⟨g, cap, rfl, hwt, hc, hg, hb⟩

theorem sumHead (g cap : Nat) (t p s d : Int) (q L : List Int) (w : World) (h : Wt w (some ⟨g, 0, none⟩) g L) (hL : L = ipL t p s d q) :
    Calls Try.prog 42 #[.slice (some ⟨g, 0, none⟩) 20 cap] w fun e w' => e = .returned (.int .i64 0) ∧ w' = w := by
  subst hL
  have hlen := ip_len t p s d q
  refine (sum_impl _ g 0 cap 20 _ w (Pr.rd_take h.rd 20) (by rw [List.length_take]; omega)).mono ?_
  rintro e w' ⟨S, rfl, hS, _, rfl⟩
  have e0 : S = 0 := by rw [hS.out, ip_take, sum_zero]
  rw [e0]
  exact ⟨rfl, rfl⟩

end Go.Proofs.Ytjbjlmaeaajlhaa.Fi

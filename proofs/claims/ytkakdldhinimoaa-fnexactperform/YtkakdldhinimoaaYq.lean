/-
  Both Perform by one word; what keeps what is sent where other blocks are marked.
-/
import Derived.Test.YtkakdldhinimoaaYp
import Derived.Test.YtkakdldhinimoaaLk
namespace Go.Proofs.Ytkakdldhinimoaa.Yq
set_option maxRecDepth 8000
open Go Go.RowKit
open Num Pl Hr Hh Pq Ht Yh Yj Yk Yl Ym Yn Yb Yc Yd Yo Yp

/-- A function over a head, ports and actions answers R and L. -/
def CP (f : Nat) (h ports : List Int) (l : List A3) (R : Bool) (L : List (Int × List Int)) : Prop :=
  ∀ (ha pa a : Option Addr) (hb ho hc pb po pc b off cap : Nat) (w : World), Hr.Rd w ha hb ho h → Hr.Rd w pa pb po ports → Yb.Rd w a b off l →
    Calls Try.prog f #[.agg #[.slice ha h.length hc], .slice pa ports.length pc, .slice a l.length cap] w (ResP w R L)

theorem performR (h ports : List Int) (l : List A3) : ∃ R L, L.length ≤ 96 ∧ CP 28 h ports l R L ∧ CP 26 h ports l R L := by
  cases hR : actsB l && Hg.headB h && Ya.portsB ports
  · exact ⟨false, [], by simp, fun ha pa a hb ho hc pb po pc b off cap w h1 h2 h3 => perfI_no ha hb ho hc h pa pb po pc ports a b off cap l w h1 h2 h3 hR,
      fun ha pa a hb ho hc pb po pc b off cap w h1 h2 h3 => perfS_no ha hb ho hc h pa pb po pc ports a b off cap l w h1 h2 h3 hR⟩
  · simp only [Bool.and_eq_true] at hR
    obtain ⟨⟨q1, q2⟩, q3⟩ := hR
    refine ⟨true, sentK (h.getD 0 0) ports l h l.length, ?_, fun ha pa a hb ho hc pb po pc b off cap w h1 h2 h3 => perfI_yes ha hb ho hc h pa pb po pc ports a b off cap l w h1 h2 h3 q1 q2 q3,
      fun ha pa a hb ho hc pb po pc b off cap w h1 h2 h3 => perfS_yes ha hb ho hc h pa pb po pc ports a b off cap l w h1 h2 h3 q1 q2 q3⟩
    have := sentK_len (h.getD 0 0) ports l h (of_decide_eq_true q3).1 l.length
    have := (actsB_out q1).1
    omega

theorem sn_only {w w' : World} {B g : Nat} {v : Value} {Q : List E} (h : Sn w B v Q) (ho : Mk.Only g w w') (hg : g < B) : Sn w' B v Q := by
  refine ⟨h.own.kept ho ?_, fun e he => ?_, h.diff⟩
  · rcases h.own.2 with ⟨rfl, _⟩ | ⟨k, cap, cur, rfl, hb, _⟩
    · exact .inl rfl
    · refine .inr ?_
      simp only [Value.ownBlock, ne_eq, Option.some.injEq]
      omega
  · obtain ⟨o, h1, h2⟩ := h.row e he
    exact ⟨o.of_block (ho.block _ o.lt (by simp only [ne_eq, Option.some.injEq]; omega)), h1, h2⟩
theorem mineA_only {w w' : World} {b g : Nat} {l : List A3} (h : Yb.Mine w b l) (ho : Mk.Only g w w') (hg : b ≠ g) : Yb.Mine w' b l := ⟨h.row.of_block (ho.block b h.row.lt (by simpa using hg)), h.size⟩
theorem mine_only {w w' : World} {b g : Nat} {l : List Int} (h : Hr.Mine w b l) (ho : Mk.Only g w w') (hg : b ≠ g) : Hr.Mine w' b l := ⟨h.row.of_block (ho.block b h.row.lt (by simpa using hg)), h.size⟩
theorem said_le {Q : List E} {L : List (Int × List Int)} (h : said Q = L) (hL : L.length ≤ 96) : Q.length ≤ 4096 := by
  have := congrArg List.length h
  rw [said_len] at this
  omega

end Go.Proofs.Ytkakdldhinimoaa.Yq

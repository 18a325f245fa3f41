/-
  Tokens: what both Lex hand back, told by letters.
-/
import Derived.Test.YtpjgedhkanmbpaaDoorLt
import Derived.Test.YtpjgedhkanmbpaaDoorLq
namespace Go.Proofs.YtpjgedhkanmbpaaDoor.Lt
open Go Go.RowKit
set_option maxRecDepth 8000
set_option linter.unusedVariables false
set_option linter.unusedSimpArgs false
open Num Word Pl Ly Lo Lg

theorem LX_len (s : ByteArray) : ∀ (n i : Nat) (acc : List Tk), s.size - i ≤ n → (LX s i acc).1.length ≤ acc.length + (s.size - i)
  | 0, i, acc, h => by
    rw [LX_end (by omega)]
    show acc.length ≤ _
    omega
  | n + 1, i, acc, h => by
    rw [LX]
    split
    · next hi =>
      split
      · have := LX_len s n (i + 1) acc (by omega)
        omega
      · split
        · have := LX_len s n (i + 1 + rem s (i + 1)) acc (by omega)
          omega
        · split
          · have := LX_len s n (i + 1 + ((fst s i).len - 1)) (acc ++ [⟨(fst s i).k, (fst s i).n, (fst s i).s, i⟩]) (by omega)
            rw [List.length_append] at this
            simp only [List.length_cons, List.length_nil] at this
            omega
          · show 0 ≤ _
            omega
    · show acc.length ≤ _
      omega
theorem LEX_len (s : ByteArray) : (LEX s).1.length ≤ 6000 := by
  unfold LEX
  split
  · show 0 ≤ _; omega
  · have := LX_len s s.size 0 [] (by omega)
    simp only [List.length_nil] at this
    omega

theorem Rd.kp {p : Nat → Prop} {w w' : World} {a : Option Addr} {b : Nat} {T : List Tk} (h : Rd w a b T) (k : Kp p w w') (hne : T.length ≠ 0 → ¬ p b) : Rd w' a b T :=
  ⟨h.head, fun i hi j hj => (World.cell?_of_block (k.block b (World.block_lt_of_cell? _ _ (h.cell i hi j hj)) (hne (by omega)))).trans (h.cell i hi j hj)⟩
/-- A list of the call's own. -/
structure Got (w w' : World) (a : Option Addr) (b : Nat) (T : List Tk) : Prop where
  bel : Below w.heap.size w w'
  rd : Rd w' a b T
  wt : T.length ≠ 0 → a = some ⟨b, 0, none⟩ ∧ WtT w' b (T.length * 4) (fun j => (flat T).getD j (.int .i64 0))
  lo : T.length ≠ 0 → w.heap.size ≤ b
theorem got_of {w w' : World} {T : List Tk} {v : Value} (hb : Below w.heap.size w w') (h : w'.ownsRow w.heap.size 31 4 v T.length (flat T)) : ∃ a b cap, v = .slice a T.length cap ∧ Got w w' a b T := by
  obtain ⟨hl, ⟨rfl, h0⟩ | ⟨g, cap, cur, rfl, hg, hk, hc, _, hs, ht⟩⟩ := h
  · exact ⟨none, 0, 0, by rw [h0], hb, ⟨fun h => absurd h0 h, fun i hi => by omega⟩, fun h => absurd h0 h, fun h => absurd h0 h⟩
  · have hcell : ∀ j, j < T.length * 4 → cur[j]? = some ((flat T).getD j (.int .i64 0)) := fun j hj => by
      have e : (cur.toList.take (T.length * 4))[j]? = (flat T)[j]? := by rw [ht]
      rw [List.getElem?_take, if_pos hj] at e
      rw [← Array.getElem?_toList, e, List.getD, List.getElem?_eq_getElem (by rw [hl]; exact hj)]
      rfl
    have hw : WtT w' g (T.length * 4) (fun j => (flat T).getD j (.int .i64 0)) := ⟨cur, hk, hcell⟩
    exact ⟨_, g, cap, rfl, hb, ⟨fun _ => rfl, fun i hi j hj => by rw [hw.cell (by omega), fl_at hi hj]⟩, fun _ => ⟨rfl, hw⟩, fun _ => hg⟩
theorem lexS_got (s : ByteArray) {T : List Tk} {C P : Int} (h : LEX s = (T, C, P)) (hm : s.size ≤ maxLen) (w : World) :
    Calls Tryd.prog 4 #[.string s] w fun e w' => ∃ a b cap, e = .returned (.tuple #[.slice a T.length cap, .int .i64 C, .int .i64 P]) ∧ Got w w' a b T := by
  refine (lexS_any s w hm).mono ?_
  rw [h]
  rintro e w' ⟨hb, v, ho, rfl⟩
  obtain ⟨a, b, cap, rfl, hg⟩ := got_of hb ho
  exact ⟨a, b, cap, rfl, hg⟩
theorem lexI_got (s : ByteArray) {T : List Tk} {C P : Int} (h : LEX s = (T, C, P)) (hm : s.size ≤ maxLen) (w : World) (hL : Laid w) :
    Calls Tryd.prog 5 #[.string s] w fun e w' => ∃ a b cap, e = .returned (.tuple #[.slice a T.length cap, .int .i64 C, .int .i64 P]) ∧ Got w w' a b T := by
  refine (lexI_any s w hL hm).mono ?_
  rw [h]
  rintro e w' ⟨hb, v, ho, rfl⟩
  obtain ⟨a, b, cap, rfl, hg⟩ := got_of hb ho
  exact ⟨a, b, cap, rfl, hg⟩

end Go.Proofs.YtpjgedhkanmbpaaDoor.Lt

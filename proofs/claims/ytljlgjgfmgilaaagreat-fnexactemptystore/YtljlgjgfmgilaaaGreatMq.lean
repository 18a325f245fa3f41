/-
  The program's map of a store; what is looked up in it; two maps held against each other.
-/
import Derived.Test.YtljlgjgfmgilaaaGreatMp
import Derived.Test.YtljlgjgfmgilaaaGreatRj
import Derived.BigQuiet
namespace Go.Proofs.YtljlgjgfmgilaaaGreat.Mp
set_option maxRecDepth 8000
set_option linter.unusedSimpArgs false
set_option linter.unusedVariables false
open Go Go.ChangeShapes Go.WideShapes Go.RowKit
open Num Word Pl Rp
open Rl (Rm rm0 said)
open St (Nm nm0 NL told)

abbrev Owns (w : World) (b n : Nat) (D : DataW Value) : Prop := w.ownsMap Tryz.prog 9 elem b n D
theorem owns_block {w w' : World} {b n : Nat} {D : DataW Value} (h : Owns w b n D) (e : w'.heap[b]? = w.heap[b]?) : Owns w' b n D := by
  obtain ⟨es, clock, hb, r⟩ := h
  exact ⟨es, clock, e.trans hb, r⟩
theorem owns_below {w w' : World} {b n : Nat} {D : DataW Value} (h : Owns w b n D) (hb : Below w.heap.size w w') : Owns w' b n D := owns_block h (hb.block b h.lt)
theorem grown_below {w w' w0 : World} {b : Nat} (h : Below w0.heap.size w0 w) (hg : w.grownBy w' (some b)) (hb : w0.heap.size ≤ b) : Below w0.heap.size w0 w' :=
  h.grown hg h.size (fun k hk => by cases hk; exact hb)
theorem ranges_below {w w' : World} {b r n : Nat} {D : DataW Value} {left : Lit → Bool} {cnt : Nat} (h : w.ranges Tryz.prog 9 elem b r n D left cnt) (hb : Below w.heap.size w w') : w'.ranges Tryz.prog 9 elem b r n D left cnt :=
  h.kept (row := none) ⟨hb.os, hb.tape, hb.output, hb.size, fun i hi _ => hb.block i hi⟩ (by simp) (by simp)
theorem zeroRel (w : World) : (zeroValue 69).run Tryz.prog w = .ok (mkV (0, none, 0, 0)) w := by kernel_rfl

def ResM (w : World) (L : List NV) (n : Nat) (e : Ending) (w' : World) : Prop := Below w.heap.size w w' ∧ ∃ B D, e = .returned (.map (some B)) ∧ w.heap.size ≤ B ∧ Owns w' B n D ∧ Is D L
theorem take_snoc {T : List Nm} {k : Nat} (h : k < T.length) : T.take (k + 1) = T.take k ++ [T.getD k nm0] := by
  rw [List.take_add_one]; simp [List.getD, h]

section
variable {ops : Array Oper} {rest : List Oper} {o : Oper} {a : Act} {Q : Exit → Act → World → Prop}
theorem look_yes (w : World) (hg : o.guard = none) (m x : Operand) (hop : o.op = Op.lookup 66 m x true) (b n : Nat) (D : DataW Value) (hm : a.eval m = .map (some b)) (hown : Owns w b n D) (s : ByteArray) (hs : s.size ≤ maxLen) (hx : a.eval x = .string s)
    (ar : Int) (A : Option Addr) (l c : Nat) (hh : Maps.has D (lt s) = true) (hat : ∀ z, D.atKey (lt s) z = .held (mkV (ar, A, l, c)))
    (hK : wpList Tryz.prog ops Q rest (a.put o.dst (.tuple #[.agg #[.int .i64 ar, .slice A l c], .bool true])) w) : wpList Tryz.prog ops Q (o :: rest) a w := by
  refine wpList_lookup_own_ok w hg m x 66 hop 9 69 law Tryz.underlying66 elem (zeroRel w) (.held (mkV (0, none, 0, 0))) [] (elem_mk _) b n D hm hown _ _ hx (key_mk hs) ?_
  intro v ps hv
  obtain ⟨_, h2⟩ := elem_inv hv
  rw [hat] at h2
  injection h2 with h2 _
  injection h2 with h2
  rw [← h2, hh]
  exact hK
theorem look_no (w : World) (hg : o.guard = none) (m x : Operand) (hop : o.op = Op.lookup 66 m x true) (b n : Nat) (D : DataW Value) (hm : a.eval m = .map (some b)) (hown : Owns w b n D) (s : ByteArray) (hs : s.size ≤ maxLen) (hx : a.eval x = .string s)
    (hh : Maps.has D (lt s) = false) (hat : ∀ z, D.atKey (lt s) z = z)
    (hK : wpList Tryz.prog ops Q rest (a.put o.dst (.tuple #[.agg #[.int .i64 0, .slice none 0 0], .bool false])) w) : wpList Tryz.prog ops Q (o :: rest) a w := by
  refine wpList_lookup_own_ok w hg m x 66 hop 9 69 law Tryz.underlying66 elem (zeroRel w) (.held (mkV (0, none, 0, 0))) [] (elem_mk _) b n D hm hown _ _ hx (key_mk hs) ?_
  intro v ps hv
  obtain ⟨_, h2⟩ := elem_inv hv
  rw [hat] at h2
  injection h2 with h2 _
  injection h2 with h2
  rw [← h2, hh]
  exact hK
/-- A range's step. -/
theorem next_rel (w : World) (hg : o.guard = none) (it : Operand) (hop : o.op = Op.next it false) (b r n : Nat) (D : DataW Value) (left : Lit → Bool) (cnt : Nat) (hit : a.eval it = .pointer (some ⟨r, 0, none⟩)) (h : w.ranges Tryz.prog 9 elem b r n D left cnt)
    (hDone : cnt = 0 → (∀ kl, left kl = false) → wpList Tryz.prog ops Q rest (a.put o.dst (.tuple #[.bool false])) w)
    (hMore : ∀ (s : ByteArray) (ar : Int) (A : Option Addr) (l c : Nat) (w' : World) (cnt' : Nat), s.size ≤ maxLen → left (lt s) = true → (∀ zd, D.atKey (lt s) zd = .held (mkV (ar, A, l, c))) → w'.ranges Tryz.prog 9 elem b r n D (fun z => left z && !z.sameKey (lt s)) cnt' → cnt' < cnt →
      w.grownBy w' (some r) → w'.heap.size = w.heap.size → (Instr.entry (.pointer (some ⟨r, 0, none⟩))).run Tryz.prog w' = .ok (.tuple #[.string s, .agg #[.int .i64 ar, .slice A l c]]) w' → wpList Tryz.prog ops Q rest (a.put o.dst (.tuple #[.bool true, .string s, .agg #[.int .i64 ar, .slice A l c]])) w') :
    wpList Tryz.prog ops Q (o :: rest) a w := by
  refine wpList_next_ranges w hg it hop 9 law elem Value.string mkV (fun key kl hk => by obtain ⟨s, rfl, _⟩ := key_inv hk; exact ⟨s, rfl⟩) (fun v y hv => (elem_inv hv).1) b r n D left cnt hit h hDone ?_
  intro s c kl y w' cnt' hk hl hv hat hr hlt hgr hsz hen
  obtain ⟨s', e, rfl, hs⟩ := key_inv hk
  injection e with e
  subst e
  obtain ⟨_, rfl⟩ := elem_inv hv
  obtain ⟨ar, A, l, c⟩ := c
  exact hMore s ar A l c w' cnt' hs hl hat hr hlt hgr hsz hen
end

theorem same_of {T : List Nm} (h : T.Pairwise (fun x y => x.s ≠ y.s)) {x y : Nm} (hx : x ∈ T) (hy : y ∈ T) (e : x.s = y.s) : x = y := by
  induction T with
  | nil => simp at hx
  | cons z T ih =>
    obtain ⟨h1, h2⟩ := List.pairwise_cons.1 h
    rcases List.mem_cons.1 hx with rfl | hx'
    · rcases List.mem_cons.1 hy with rfl | hy'
      · rfl
      · exact absurd e (h1 y hy')
    · rcases List.mem_cons.1 hy with rfl | hy'
      · exact absurd e.symm (h1 x hx')
      · exact ih h2 hx' hy'
/-- What a map of a store holds at a name. -/
theorem Is.entry {D : DataW Value} {T : List Nm} (h : Is D (T.map nv)) {s : ByteArray} {c : E4} (hat : ∀ zd, D.atKey (lt s) zd = .held (mkV c)) : ∃ x ∈ T, nv x = (s, c) := by
  rcases h.find s with ⟨p, hp, e, _, ha⟩ | ⟨_, _, ha⟩
  · obtain ⟨x, hx, rfl⟩ := List.mem_map.1 hp
    have := (ha .nil).symm.trans (hat .nil)
    injection this with this
    refine ⟨x, hx, ?_⟩
    rw [← mkV_inj this, ← e]
  · have := (ha .nil).symm.trans (hat .nil)
    cases this

end Go.Proofs.YtljlgjgfmgilaaaGreat.Mp

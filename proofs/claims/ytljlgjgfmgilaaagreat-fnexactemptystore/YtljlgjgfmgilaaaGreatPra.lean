/-
  Slices of elements of one kind in memory: read, kept, told; a row under way.
-/
import Derived.Test.YtljlgjgfmgilaaaGreatPl
import Derived.Deep.Slices
import Derived.Laws.MakeOwn
namespace Go.Proofs.YtljlgjgfmgilaaaGreat.Pm
set_option maxRecDepth 8000
set_option linter.unusedSimpArgs false
set_option linter.unusedVariables false
open Go Go.ChangeShapes Go.WideShapes Go.RowKit
open Num Pl

/-- A slice in memory: its head, its room, and what it holds. -/
structure Sl (α : Type) where
  a : Option Addr
  b : Nat
  o : Nat
  c : Nat
  Q : List α
def Sl.nil {α : Type} : Sl α := ⟨none, 0, 0, 0, []⟩

/-- A kind of element: how many cells it takes, what they hold, what it says, how much it weighs, and what is told of what hangs on it, in blocks from lo on. -/
structure Kd (α L : Type) where
  z : α
  t : TypeId
  n : Nat
  pos : 0 < n
  val : α → Nat → Value
  l : α → L
  wt : α → Nat
  ok : Nat → World → α → Prop
  keep : ∀ {lo : Nat} {w w' : World} {x : α}, ok lo w x → (∀ z, lo ≤ z → z < w.heap.size → w'.heap[z]? = w.heap[z]?) → ok lo w' x
  mono : ∀ {lo lo' : Nat} {w : World} {x : α}, ok lo w x → lo' ≤ lo → ok lo' w x

section
variable {α L : Type} {K : Kd α L}

/-- The slice reads as its elements; all of it lies in blocks from lo on. -/
structure Rd (K : Kd α L) (lo : Nat) (w : World) (s : Sl α) : Prop where
  head : 0 < s.Q.length → s.a = some ⟨s.b, s.o, none⟩
  blk : 0 < s.Q.length → lo ≤ s.b
  cell : ∀ i, i < s.Q.length → ∀ j, j < K.n → w.cell? ⟨s.b, s.o + i * K.n + j, none⟩ = some (K.val (s.Q.getD i K.z) j)
  ok : ∀ i, i < s.Q.length → K.ok lo w (s.Q.getD i K.z)
  len : s.Q.length ≤ maxLen
  room : s.Q.length ≤ s.c
  ty : lo ≠ 0 → 0 < s.Q.length → ∃ cs, w.heap[s.b]? = some (.cells cs K.t (0, 0))
theorem Rd.lt {lo : Nat} {w : World} {s : Sl α} (h : Rd K lo w s) {i : Nat} (hi : i < s.Q.length) : s.b < w.heap.size := World.block_lt_of_cell? _ _ (h.cell i hi 0 K.pos)
theorem Rd.keep {lo : Nat} {w w' : World} {s : Sl α} (h : Rd K lo w s) (hk : ∀ z, lo ≤ z → z < w.heap.size → w'.heap[z]? = w.heap[z]?) : Rd K lo w' s :=
  ⟨h.head, h.blk, fun i hi j hj => (World.cell?_of_block (by exact hk s.b (h.blk (by omega)) (h.lt hi))).trans (h.cell i hi j hj), fun i hi => K.keep (h.ok i hi) hk, h.len, h.room, fun h0 hn => by obtain ⟨cs, q⟩ := h.ty h0 hn; exact ⟨cs, (hk s.b (h.blk hn) (h.lt hn)).trans q⟩⟩
theorem Rd.mono {lo lo' : Nat} {w : World} {s : Sl α} (h : Rd K lo w s) (hl : lo' ≤ lo) : Rd K lo' w s :=
  ⟨h.head, fun hn => Nat.le_trans hl (h.blk hn), h.cell, fun i hi => K.mono (h.ok i hi) hl, h.len, h.room, fun h0 hn => h.ty (by omega) hn⟩
theorem Rd.below {lo : Nat} {w w' : World} {s : Sl α} (h : Rd K lo w s) (hb : Below w.heap.size w w') : Rd K lo w' s := h.keep fun z _ hz => hb.block z hz
theorem ok_below {lo : Nat} {w w' : World} {x : α} (h : K.ok lo w x) (hb : Below w.heap.size w w') : K.ok lo w' x := K.keep h fun z _ hz => hb.block z hz
theorem rd_nil (lo : Nat) (w : World) (a : Option Addr) (b o c : Nat) : Rd K lo w ⟨a, b, o, c, []⟩ := ⟨fun h => by simp at h, fun h => by simp at h, fun i h => by simp at h, fun i h => by simp at h, by simp, by simp, fun _ h => by simp at h⟩

def told (K : Kd α L) (Q : List α) : List L := Q.map K.l
theorem told_len (Q : List α) : (told K Q).length = Q.length := by simp [told]
theorem told_app (Q : List α) (x : α) : told K (Q ++ [x]) = told K Q ++ [K.l x] := by simp [told]
theorem told_at (Q : List α) (i : Nat) : (told K Q).getD i (K.l K.z) = K.l (Q.getD i K.z) := by
  by_cases h : i < Q.length
  · simp [told, List.getD, h]
  · simp [told, List.getD, List.getElem?_eq_none (Nat.le_of_not_lt h)]
theorem take_told {Q P : List α} (h : told K P = (told K Q).take P.length) (hlt : P.length < Q.length) {x : α} (hx : K.l x = K.l (Q.getD P.length K.z)) : told K (P ++ [x]) = (told K Q).take (P ++ [x]).length := by
  have h2 : P.length < (told K Q).length := by rw [told_len]; exact hlt
  rw [told_app, h, hx, ← told_at]
  have e2 : (P ++ [x]).length = P.length + 1 := by simp
  rw [e2, List.take_add_one, List.getElem?_eq_getElem h2]
  simp [List.getD, h2]

/-- How much the first k elements weigh. -/
def tot (K : Kd α L) (Q : List α) : Nat → Nat
  | 0 => 0
  | k + 1 => tot K Q k + K.wt (Q.getD k K.z)
theorem tot_mono (Q : List α) {i j : Nat} (h : i ≤ j) : tot K Q i ≤ tot K Q j := by
  induction j with
  | zero => have : i = 0 := by omega
            subst this; exact Nat.le_refl _
  | succ j ih =>
    by_cases e : i = j + 1
    · subst e; exact Nat.le_refl _
    · have := ih (by omega)
      simp only [tot]; omega
/-- What a slice weighs. -/
def wtS (K : Kd α L) (Q : List α) : Nat := Q.length + tot K Q Q.length
theorem wt_at {Q : List α} {i : Nat} (hi : i < Q.length) : Q.length + K.wt (Q.getD i K.z) ≤ wtS K Q := by
  have := tot_mono (K := K) Q (i := i + 1) (j := Q.length) (by omega)
  simp only [tot] at this
  unfold wtS; omega

/-- The cells of a row of such elements. -/
def flat (K : Kd α L) (P : List α) : Nat → Value := fun j => K.val (P.getD (j / K.n) K.z) (j % K.n)
theorem flat_at (P : List α) (i j : Nat) (hj : j < K.n) : flat K P (i * K.n + j) = K.val (P.getD i K.z) j := by
  have e1 : (i * K.n + j) % K.n = j := by rw [Nat.add_comm, Nat.mul_comm, Nat.add_mul_mod_self_left, Nat.mod_eq_of_lt hj]
  have e2 : (i * K.n + j) / K.n = i := by rw [Nat.add_comm, Nat.mul_comm, Nat.add_mul_div_left _ _ K.pos, Nat.div_eq_of_lt hj, Nat.zero_add]
  unfold flat; rw [e1, e2]
theorem getD_end (P : List α) : P.getD P.length K.z = K.z := by simp [List.getD]
theorem getD_app (P : List α) (x : α) (i : Nat) : (P ++ [x]).getD i K.z = if i = P.length then x else P.getD i K.z := by
  by_cases e : i = P.length
  · subst e; simp [List.getD]
  · rw [if_neg e]
    by_cases h : i < P.length
    · simp [List.getD, h, List.getElem?_append]
    · have h1 : P.length + 1 ≤ i := by omega
      simp [List.getD, List.getElem?_eq_none (Nat.le_of_not_lt h)]
      rw [List.getElem?_eq_none (by simp; omega)]; rfl
/-- Values put into a block one behind the other. -/
def puts (w : World) (g p : Nat) : List Value → World
  | [] => w
  | v :: l => puts (w.setCell ⟨g, p, none⟩ v) g (p + 1) l
theorem puts_row {g n : Nat} {t : TypeId} : ∀ (l : List Value) (w : World) (p : Nat) (f : Nat → Value), w.rowIs g t n f → (puts w g p l).rowIs g t n (fun i => if p ≤ i ∧ i < p + l.length then l.getD (i - p) undef else f i)
  | [], w, p, f, h => h.congr fun i hi => by simp; omega
  | v :: l, w, p, f, h => by
    refine (puts_row l _ (p + 1) _ (h.set p v)).congr fun i hi => ?_
    simp only [List.length_cons]
    by_cases e : i = p
    · subst e
      rw [if_neg (by omega), if_pos rfl, if_pos (by omega)]
      simp
    · by_cases h2 : p + 1 ≤ i ∧ i < p + 1 + l.length
      · rw [if_pos h2, if_pos (by omega)]
        obtain ⟨k, rfl⟩ : ∃ k, i = p + 1 + k := ⟨i - (p + 1), by omega⟩
        have a1 : p + 1 + k - (p + 1) = k := by omega
        have a2 : p + 1 + k - p = k + 1 := by omega
        rw [a1, a2]; rfl
      · rw [if_neg h2, if_neg e, if_neg (by omega)]
theorem puts_other {g z : Nat} (hz : z ≠ g) : ∀ (l : List Value) (w : World) (p : Nat), (puts w g p l).heap[z]? = w.heap[z]?
  | [], w, p => rfl
  | v :: l, w, p => (puts_other hz l _ (p + 1)).trans (Below.heap_setCell _ _ _ _ (by exact hz))
theorem puts_size {g : Nat} : ∀ (l : List Value) (w : World) (p : Nat), (puts w g p l).heap.size = w.heap.size
  | [], w, p => rfl
  | v :: l, w, p => (puts_size l _ (p + 1)).trans (by simp)
theorem puts_below {g n : Nat} {W : World} (hg : n ≤ g) : ∀ (l : List Value) (w : World) (p : Nat), Below n W w → Below n W (puts w g p l)
  | [], w, p, h => h
  | v :: l, w, p, h => puts_below hg l _ (p + 1) (h.setCell (by exact hg) v)
theorem flat_step {w : World} {g n : Nat} {t : TypeId} {P : List α} {x : α} (h : w.rowIs g t n (flat K P)) : (puts w g (P.length * K.n) ((List.range K.n).map (K.val x))).rowIs g t n (flat K (P ++ [x])) := by
  refine (puts_row _ _ _ _ h).congr fun i hi => ?_
  simp only [List.length_map, List.length_range]
  by_cases h2 : P.length * K.n ≤ i ∧ i < P.length * K.n + K.n
  · rw [if_pos h2]
    obtain ⟨k, rfl⟩ : ∃ k, i = P.length * K.n + k := ⟨i - P.length * K.n, by omega⟩
    have hk : k < K.n := by omega
    rw [flat_at _ _ _ hk, getD_app, if_pos rfl, Nat.add_sub_cancel_left]
    simp [List.getD, hk]
  · rw [if_neg h2]
    unfold flat
    rw [getD_app, if_neg]
    intro e
    have h3 := Nat.div_add_mod i K.n
    have h4 := Nat.mod_lt i K.pos
    rw [e, Nat.mul_comm] at h3
    omega
/-- A row of the call's own, whole. -/
theorem rd_of_row {w : World} {lo g c : Nat} {t : TypeId} {P : List α} (h : w.rowIs g t (P.length * K.n) (flat K P)) (hg : lo ≤ g) (ho : ∀ x ∈ P, K.ok lo w x) (hl : P.length ≤ maxLen) (hc : P.length ≤ c) (ht : t = K.t) : Rd K lo w ⟨some ⟨g, 0, none⟩, g, 0, c, P⟩ := by
  refine ⟨fun _ => rfl, fun _ => hg, fun i hi j hj => ?_, fun i hi => ?_, hl, hc, fun _ _ => by obtain ⟨cs, q, _⟩ := h; exact ⟨cs, by rw [← ht]; exact q⟩⟩
  · simp only at hi ⊢
    rw [← flat_at _ _ _ hj, Nat.zero_add]
    refine h.cell ?_
    have h1 : (i + 1) * K.n ≤ P.length * K.n := Nat.mul_le_mul_right _ (by omega)
    rw [Nat.succ_mul] at h1
    omega
  · simp only at hi ⊢
    refine ho _ ?_
    have e : P.getD i K.z = P[i] := by simp [List.getD, hi]
    rw [e]; exact List.getElem_mem hi

theorem open_sl {H : Type} {enc : TypeId × Value → H} {W : World} {fuel : Nat} {v : Value} {x : DataW H × List MemPlace} {t te : TypeId} (hu : Tryz.prog.underlying t = some (.slice te)) (hc : Tryz.prog.cellsOf te = K.n)
    (hel : ∀ n cs y, DataW.trod enc Tryz.prog W 0 (fun _ => true) true n te cs = some y → ∃ q : α, cs = (List.range K.n).map (K.val q) ∧ K.ok 0 W q)
    (h : DataW.trod enc Tryz.prog W 0 (fun _ => true) true fuel t [v] = some x) : ∃ s : Sl α, v = .slice s.a s.Q.length s.c ∧ Rd K 0 W s := by
  haveI : Inhabited α := ⟨K.z⟩
  rcases Deep.open_slice hu h with ⟨hcs, _⟩ | ⟨x, len, cap, m, n, D, Pl, hcs, hb, hl, hm, hmm, _, hx⟩
  · simp at hcs
    subst hcs
    exact ⟨Sl.nil, rfl, rd_nil _ _ _ _ _ _⟩
  · simp at hcs
    subst hcs
    have hlm : len ≤ m := by rw [hmm]; split <;> omega
    have each : ∀ i, i < len → ∃ q : α, K.ok 0 W q ∧ ∀ j, j < K.n → W.cell? (x.add (i * K.n + j)) = some (K.val q j) := by
      intro i hi
      obtain ⟨cs', h1, h2⟩ := hx i (by omega)
      rw [hc] at h1
      obtain ⟨_, hlen, hcell⟩ := World.cells?_some h1
      obtain ⟨q, rfl, ho⟩ := hel _ _ _ h2
      refine ⟨q, ho, fun j hj => ?_⟩
      have e0 := hcell j (by omega)
      rw [Deep.add_add] at e0
      rw [e0]
      simp [hj]
    obtain ⟨q, hq⟩ := Deep.choose_lt each
    have ge : ∀ i, i < len → ((List.range len).map q).getD i K.z = q i := fun i hi => by simp [List.getD, hi]
    by_cases h0 : len = 0
    · subst h0
      exact ⟨⟨some x, 0, 0, cap, []⟩, by simp, rd_nil _ _ _ _ _ _⟩
    · obtain ⟨b, off, spot⟩ := x
      have hc0 := (hq 0 (by omega)).2 0 K.pos
      have hspot : spot = none := by simpa [Addr.add] using World.cell?_spot hc0
      subst hspot
      refine ⟨⟨some ⟨b, off, none⟩, b, off, cap, (List.range len).map q⟩, by simp, fun _ => rfl, fun _ => Nat.zero_le _, fun i hi j hj => ?_, fun i hi => ?_, by simp; omega, by simp; omega, fun q => absurd rfl q⟩
      · simp only [List.length_map, List.length_range] at hi
        have := (hq i hi).2 j hj
        rw [add_eq] at this
        simp only
        rw [ge i hi, Nat.add_assoc]
        exact this
      · simp only [List.length_map, List.length_range] at hi
        simp only
        rw [ge i hi]
        exact (hq i hi).1
end

end Go.Proofs.YtljlgjgfmgilaaaGreat.Pm

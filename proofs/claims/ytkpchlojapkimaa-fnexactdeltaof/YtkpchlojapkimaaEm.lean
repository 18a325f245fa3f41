/-
  Marks in deltas: written.
-/
import Derived.Test.YtkpchlojapkimaaEc
import Derived.Test.YtkpchlojapkimaaMs
namespace Go.Proofs.Ytkpchlojapkimaa.Ch
set_option maxRecDepth 8000
set_option linter.unusedSimpArgs false
set_option linter.unusedVariables false
open Go Go.ChangeShapes Go.WideShapes Go.RowKit
open Num Word Pl Rp
open Rl (Rm rm0 said Kp UseQ MkQ cnt mt)
open St (own_keepU mkq_keepU mem_getD)

def WtC (w : World) (b n : Nat) (f : Nat → Value) : Prop := ∃ cs : Array Value, w.heap[b]? = some (.cells cs 53 (0, 0)) ∧ ∀ j, j < n → cs[j]? = some (f j)
theorem WtC.cell {w : World} {b n : Nat} {f : Nat → Value} (h : WtC w b n f) {i : Nat} (hi : i < n) : w.cell? ⟨b, i, none⟩ = some (f i) := by
  obtain ⟨c, hb, hc⟩ := h
  simp [World.cell?, hb, hc i hi]
theorem WtC.frozen {w : World} {b n : Nat} {f : Nat → Value} (h : WtC w b n f) (i : Nat) : w.frozen? ⟨b, i, none⟩ = false := by
  obtain ⟨c, hb, _⟩ := h
  simp [World.frozen?, hb]
theorem WtC.lt {w : World} {b n : Nat} {f : Nat → Value} (h : WtC w b n f) : b < w.heap.size := by
  obtain ⟨c, hb, _⟩ := h
  exact blk_lt hb
theorem WtC.congr {w : World} {b n : Nat} {f g : Nat → Value} (h : WtC w b n f) (e : ∀ i, i < n → f i = g i) : WtC w b n g := by
  obtain ⟨c, hb, hc⟩ := h
  exact ⟨c, hb, fun i hi => by rw [hc i hi, e i hi]⟩
theorem WtC.of_block {w w' : World} {b n : Nat} {f : Nat → Value} (h : WtC w b n f) (e : w'.heap[b]? = w.heap[b]?) : WtC w' b n f := by
  obtain ⟨c, hb, hc⟩ := h
  exact ⟨c, e.trans hb, hc⟩
theorem WtC.set {w : World} {b n : Nat} {f : Nat → Value} (h : WtC w b n f) (i : Nat) (v : Value) : WtC (w.setCell ⟨b, i, none⟩ v) b n (fun j => if j = i then v else f j) := by
  obtain ⟨c, hb, hc⟩ := h
  refine ⟨c.setIfInBounds i v, ?_, fun j hj => ?_⟩
  · simp [World.setCell, Array.getElem?_modify, hb]
  · rw [Array.getElem?_setIfInBounds]
    by_cases e : j = i
    · subst e
      have hj' : j < c.size := (Array.getElem?_eq_some_iff.1 (hc j hj)).1
      simp [hj']
    · rw [if_neg (fun h => e h.symm)]
      show c[j]? = some (if j = i then v else f j)
      rw [if_neg e]
      exact hc j hj


/-- How many marks the rows of a relation take. -/
def cn (x : Re) : Nat := cnt x.Q x.Q.length * 2
/-- The mark that change i begins with. -/
def kC (T : List Cm) (k0 : Nat) : Nat → Nat
  | 0 => k0
  | i + 1 => kC T k0 i + 3 + cn (T.getD i cm0).p + cn (T.getD i cm0).m
theorem kC_mono (T : List Cm) (k0 : Nat) {i j : Nat} (h : i ≤ j) : kC T k0 i ≤ kC T k0 j := by
  induction j with
  | zero => have : i = 0 := by omega
            subst this; exact Nat.le_refl _
  | succ j ih =>
    by_cases e : i = j + 1
    · subst e; exact Nat.le_refl _
    · have := ih (by omega)
      simp only [kC]; omega
theorem kC_ge (T : List Cm) (k0 i : Nat) : k0 ≤ kC T k0 i := kC_mono T k0 (Nat.zero_le i)
def mkC (T : List Cm) (k0 j : Nat) : Value := if j % 5 = 0 then .string (mt (kC T k0 (j / 5))) else if j % 5 = 1 then .int .i64 ((kC T k0 (j / 5) + 1 : Nat) : Int) else if j % 5 = 3 then .int .i64 ((kC T k0 (j / 5) + 2 + cn (T.getD (j / 5) cm0).p : Nat) : Int) else flat5 T j
def mixC (T : List Cm) (k0 k j : Nat) : Value := if j < k * 5 then mkC T k0 j else flat5 T j
theorem mixC_step {T : List Cm} {k0 k j : Nat} : (if j = k * 5 + 3 then Value.int .i64 ((kC T k0 k + 2 + cn (T.getD k cm0).p : Nat) : Int) else if j = k * 5 + 1 then .int .i64 ((kC T k0 k + 1 : Nat) : Int) else if j = k * 5 then .string (mt (kC T k0 k)) else mixC T k0 k j) = mixC T k0 (k + 1) j := by
  by_cases hj : j / 5 = k
  · have h5 : j % 5 < 5 := Nat.mod_lt _ (by omega)
    unfold mixC mkC
    rw [if_pos (by omega : j < (k + 1) * 5), hj, if_neg (by omega : ¬ j < k * 5)]
    by_cases e0 : j = k * 5
    · rw [if_neg (by omega), if_neg (by omega), if_pos e0, if_pos (by omega)]
    by_cases e1 : j = k * 5 + 1
    · rw [if_neg (by omega), if_pos e1, if_neg (by omega), if_pos (by omega)]
    by_cases e3 : j = k * 5 + 3
    · rw [if_pos e3, if_neg (by omega), if_neg (by omega), if_pos (by omega)]
    rw [if_neg e3, if_neg e1, if_neg e0, if_neg (by omega), if_neg (by omega), if_neg (by omega)]
  · rw [if_neg (by omega), if_neg (by omega), if_neg (by omega)]
    unfold mixC
    by_cases e3 : j < k * 5
    · rw [if_pos e3, if_pos (by omega)]
    · rw [if_neg e3, if_neg (by omega)]

theorem cn_said {x y : Re} (h : said x.Q = said y.Q) : cn x = cn y := by
  have e3 := Rl.cnt_said h x.Q.length
  have e4 : x.Q.length = y.Q.length := by rw [← Rl.said_len, ← Rl.said_len, h]
  unfold cn
  rw [e4] at e3 ⊢
  rw [e3]
theorem kC_told {T U : List Cm} (h : told T = told U) (k0 : Nat) : ∀ i, kC T k0 i = kC U k0 i
  | 0 => rfl
  | i + 1 => by
    simp only [kC, kC_told h k0 i]
    have hl : T.length = U.length := by rw [← told_len, ← told_len, h]
    by_cases hi : i < T.length
    · have e : (T.getD i cm0).l = (U.getD i cm0).l := by rw [← told_at hi, ← told_at (by omega), h]
      have e2 : said (T.getD i cm0).p.Q = said (U.getD i cm0).p.Q := congrArg (fun x => x.2.1.2) e
      have e3 : said (T.getD i cm0).m.Q = said (U.getD i cm0).m.Q := congrArg (fun x => x.2.2.2) e
      rw [cn_said e2, cn_said e3]
    · have e1 : T.getD i cm0 = cm0 := by simp [List.getD, List.getElem?_eq_none (Nat.le_of_not_lt hi)]
      have e2 : U.getD i cm0 = cm0 := by simp [List.getD, List.getElem?_eq_none (by omega : U.length ≤ i)]
      rw [e1, e2]
theorem kC_raw {Q : List Cm} {T : List Raw} (hl : Q.length = T.length) (h : ∀ i, i < T.length → ((Q.getD i cm0).p.Q.length = (T.getD i raw0).S.length ∧ said (Q.getD i cm0).p.Q = (T.getD i raw0).S.map Rl.Raw.l) ∧ ((Q.getD i cm0).m.Q.length = (T.getD i raw0).U.length ∧ said (Q.getD i cm0).m.Q = (T.getD i raw0).U.map Rl.Raw.l)) : ∀ i, i ≤ Q.length → kC Q 1 i ≤ 1 + 3 * (i + totC T i)
  | 0, _ => by simp [kC]
  | i + 1, hi => by
    have ih := kC_raw hl h i (by omega)
    obtain ⟨⟨e1, e2⟩, e3, e4⟩ := h i (by omega)
    have q1 := Rl.cnt_raw e2 e1 (Q.getD i cm0).p.Q.length (Nat.le_refl _)
    have q2 := Rl.cnt_raw e4 e3 (Q.getD i cm0).m.Q.length (Nat.le_refl _)
    simp only [kC, totC, wt, cn]
    rw [e1] at q1 ⊢
    rw [e3] at q2 ⊢
    omega

theorem rels_len (T : List Cm) : (rels T).length = 2 * T.length := by
  induction T with
  | nil => rfl
  | cons x T ih => simp only [rels, List.flatMap_cons, List.length_append, List.length_cons, List.length_nil] at ih ⊢; omega
theorem rels_at : ∀ (T : List Cm) (i : Nat), (rels T).getD (2 * i) re0 = (T.getD i cm0).p ∧ (rels T).getD (2 * i + 1) re0 = (T.getD i cm0).m
  | [], i => by simp [rels, List.getD, cm0]
  | x :: T, 0 => by simp [rels, List.getD]
  | x :: T, i + 1 => by
    have ih := rels_at T i
    have e : rels (x :: T) = x.p :: x.m :: rels T := by simp [rels]
    have e1 : 2 * (i + 1) = 2 * i + 1 + 1 := by omega
    have e2 : 2 * (i + 1) + 1 = 2 * i + 1 + 1 + 1 := by omega
    rw [e, e2, e1]
    simpa [List.getD] using ih
theorem rel_mem {L : List Re} {i : Nat} (hi : i < L.length) : L.getD i re0 ∈ L := by
  have e : L.getD i re0 = L[i] := by simp [List.getD, hi]
  rw [e]; exact List.getElem_mem hi

/-- The blocks that marks turn. -/
def UseC (T : List Cm) (b x : Nat) : Prop := (T.length ≠ 0 ∧ x = b) ∨ ∃ y ∈ rels T, UseQ y.Q x
/-- The mark that the rows of relation j begin with. -/
def kR (T : List Cm) (k0 j : Nat) : Nat := kC T k0 (j / 2) + (if j % 2 = 0 then 2 else 3 + cn (T.getD (j / 2) cm0).p)
theorem kR0 (T : List Cm) (k0 i : Nat) : kR T k0 (2 * i) = kC T k0 i + 2 := by
  have e1 : 2 * i / 2 = i := by omega
  have e2 : 2 * i % 2 = 0 := by omega
  unfold kR; rw [e1, e2]; rfl
theorem kR1 (T : List Cm) (k0 i : Nat) : kR T k0 (2 * i + 1) = kC T k0 i + (3 + cn (T.getD i cm0).p) := by
  have e1 : (2 * i + 1) / 2 = i := by omega
  have e2 : (2 * i + 1) % 2 = 1 := by omega
  unfold kR; rw [e1, e2]; rfl
structure MkC (w : World) (k0 : Nat) (a : Option Addr) (b : Nat) (T : List Cm) : Prop where
  head : 0 < T.length → a = some ⟨b, 0, none⟩
  row : T.length ≠ 0 → WtC w b (T.length * 5) (mkC T k0)
  each : ∀ j, j < (rels T).length → MkQ w (kR T k0 j) ((rels T).getD j re0).a ((rels T).getD j re0).b ((rels T).getD j re0).Q
  size : T.length ≤ 4194304
theorem MkC.below {w w' : World} {k0 : Nat} {a : Option Addr} {b : Nat} {T : List Cm} (h : MkC w k0 a b T) (hb : Below w.heap.size w w') : MkC w' k0 a b T :=
  ⟨h.head, fun h0 => (h.row h0).of_block (hb.block _ (h.row h0).lt), fun i hi => (h.each i hi).below hb, h.size⟩

/-- What the blocks of relations of the call's own have to do with one another. -/
structure Apart (L : List Re) (b : Nat) : Prop where
  rows : ∀ i j, i < L.length → j < L.length → i ≠ j → ∀ x, UseQ (L.getD i re0).Q x → ¬ UseQ (L.getD j re0).Q x
  list : ∀ i j, i < L.length → j < L.length → (L.getD i re0).Q.length ≠ 0 → ¬ UseQ (L.getD j re0).Q (L.getD i re0).b
  top : ∀ i, i < L.length → ¬ UseQ (L.getD i re0).Q b ∧ ((L.getD i re0).Q.length ≠ 0 → (L.getD i re0).b ≠ b)
theorem own_apart {w : World} {lo hi : Nat} {a : Option Addr} {b : Nat} {T : List Cm} (h : Own w lo hi a b T) : Apart (rels T) b := by
  have hE := fun i (hi : i < (rels T).length) => (h.each _ (rel_mem hi)).2
  have hU : ∀ i, i < (rels T).length → ∀ x, UseQ ((rels T).getD i re0).Q x → ∃ cs, w.heap[x]? = some (.cells cs 129 (0, 0)) := fun i hi x ⟨r, hr, h0, e⟩ => by
    obtain ⟨_, _, _, cs, h2, _⟩ := (hE i hi).each r hr h0
    exact ⟨cs, e ▸ h2⟩
  have hL : ∀ i, i < (rels T).length → ((rels T).getD i re0).Q.length ≠ 0 → ∃ cs, w.heap[((rels T).getD i re0).b]? = some (.cells cs 98 (0, 0)) := fun i hi h0 => ((hE i hi).blk.resolve_left h0).2
  have hT : T.length ≠ 0 → ∃ cs, w.heap[b]? = some (.cells cs 53 (0, 0)) := fun h0 => (h.blk.resolve_left h0).2
  have pa : ∀ i j, (hi : i < (rels T).length) → (hj : j < (rels T).length) → i < j → Far ((rels T).getD i re0) ((rels T).getD j re0) := fun i j hi hj hij => by
    have := List.pairwise_iff_getElem.1 h.diff i j hi hj hij
    simpa [List.getD, hi, hj] using this
  have hz : ∀ i, i < (rels T).length → T.length ≠ 0 := fun i hi => by rw [rels_len] at hi; omega
  refine ⟨fun i j hi hj hij x ⟨r, hr, h0, e⟩ ⟨q, hq, h0', e'⟩ => ?_, fun i j hi hj h0 hu => ?_, fun i hi => ⟨fun hu => ?_, fun h0 e => ?_⟩⟩
  · rcases Nat.lt_or_ge i j with c | c
    · exact pa i j hi hj c r hr q hq h0 h0' (e.symm.trans e')
    · exact pa j i hj hi (by omega) q hq r hr h0' h0 (e'.symm.trans e)
  · obtain ⟨c1, q1⟩ := hU j hj _ hu
    obtain ⟨c2, q2⟩ := hL i hi h0
    rw [q1] at q2; simp at q2
  · obtain ⟨c1, q1⟩ := hU i hi _ hu
    obtain ⟨c2, q2⟩ := hT (hz i hi)
    rw [q1] at q2; simp at q2
  · obtain ⟨c1, q1⟩ := hL i hi h0
    obtain ⟨c2, q2⟩ := hT (hz i hi)
    rw [e, q2] at q1; simp at q1
theorem own_use' {w : World} {lo hi : Nat} {a : Option Addr} {b : Nat} {T : List Cm} (h : Own w lo hi a b T) (hb : T.length ≠ 0 → b < hi) {x : Nat} (hu : UseC T b x) : lo ≤ x ∧ x < hi := by
  rcases hu with ⟨h0, rfl⟩ | ⟨y, hy, r, hr, h0, rfl⟩
  · exact ⟨(h.blk.resolve_left h0).1, hb h0⟩
  · obtain ⟨_, h1, h2, _⟩ := (h.each y hy).2.each r hr h0
    exact ⟨h1, h2⟩

/-- The relations ahead of q are marked, those from q on are as they were. -/
structure Half (L : List Re) (kk : Nat → Nat) (lo hi q : Nat) (w : World) : Prop where
  mark : ∀ j, j < L.length → j < q → MkQ w (kk j) (L.getD j re0).a (L.getD j re0).b (L.getD j re0).Q
  left : ∀ j, j < L.length → q ≤ j → Rl.Own w lo hi (L.getD j re0).a (L.getD j re0).b (L.getD j re0).Q
theorem mkq_lt {w : World} {k0 : Nat} {a : Option Addr} {b : Nat} {Q : List Rm} (h : MkQ w k0 a b Q) : (∀ x, UseQ Q x → x < w.heap.size) ∧ (Q.length ≠ 0 → b < w.heap.size) := by
  refine ⟨fun x ⟨r, hr, h0, ex⟩ => ?_, fun h0 => World.block_lt_of_cell? _ _ (h.cell 0 (by omega))⟩
  obtain ⟨i, hi, er⟩ := mem_getD hr
  have := (h.mark i hi (by rw [er]; exact h0)).2.lt
  rw [er] at this
  rw [ex]; exact this
theorem own_lt {w : World} {lo hi : Nat} {a : Option Addr} {b : Nat} {Q : List Rm} (h : Rl.Own w lo hi a b Q) : (∀ x, UseQ Q x → x < w.heap.size) ∧ (Q.length ≠ 0 → b < w.heap.size) := by
  refine ⟨fun x ⟨r, hr, h0, ex⟩ => ?_, fun h0 => blk_lt (h.blk.resolve_left h0).2.choose_spec⟩
  rw [ex]; exact (h.each r hr h0).2.2.2.lt
theorem Half.keep {L : List Re} {kk : Nat → Nat} {lo hi q b : Nat} {w w' : World} (h : Half L kk lo hi q w) (hA : Apart L b) (hk : ∀ x, x < w.heap.size → x ≠ b → w'.heap[x]? = w.heap[x]?) : Half L kk lo hi q w' := by
  refine ⟨fun j hj hjq => ?_, fun j hj hjq => ?_⟩
  · have m := h.mark j hj hjq
    obtain ⟨q1, q2⟩ := mkq_lt m
    exact mkq_keepU m (fun h0 => hk _ (q2 h0) ((hA.top j hj).2 h0)) (fun x hx => hk x (q1 x hx) (fun e => (hA.top j hj).1 (e ▸ hx)))
  · have m := h.left j hj hjq
    obtain ⟨q1, q2⟩ := own_lt m
    exact own_keepU m (fun h0 => hk _ (q2 h0) ((hA.top j hj).2 h0)) (fun x hx => hk x (q1 x hx) (fun e => (hA.top j hj).1 (e ▸ hx)))
theorem Half.step {L : List Re} {kk : Nat → Nat} {lo hi q b : Nat} {w w' : World} (h : Half L kk lo hi q w) (hA : Apart L b) (hq : q < L.length) (kp : Kp (UseQ (L.getD q re0).Q) w w') (mk : MkQ w' (kk q) (L.getD q re0).a (L.getD q re0).b (L.getD q re0).Q) : Half L kk lo hi (q + 1) w' := by
  refine ⟨fun j hj hjq => ?_, fun j hj hjq => ?_⟩
  · by_cases e : j = q
    · subst e; exact mk
    · have m := h.mark j hj (by omega)
      obtain ⟨q1, q2⟩ := mkq_lt m
      exact mkq_keepU m (fun h0 => kp.block _ (q2 h0) (hA.list j q hj hq h0)) (fun x hx => kp.block x (q1 x hx) (hA.rows j q hj hq e x hx))
  · have m := h.left j hj (by omega)
    obtain ⟨q1, q2⟩ := own_lt m
    exact own_keepU m (fun h0 => kp.block _ (q2 h0) (hA.list j q hj hq h0)) (fun x hx => kp.block x (q1 x hx) (hA.rows j q hj hq (by omega) x hx))

set_option maxHeartbeats 4000000 in
theorem markCs_any (k0 : Nat) (h0 : 0 < k0) (a : Option Addr) (b cap lo hi : Nat) (T : List Cm) (w : World) (h : Own w lo hi a b T) (h1 : kC T k0 T.length ≤ 10000000000) :
    Calls Try.prog 41 #[.slice a T.length cap, .int .i64 k0] w fun e w' => e = .returned (.int .i64 ((kC T k0 T.length : Nat) : Int)) ∧ Kp (UseC T b) w w' ∧ MkC w' k0 a b T := by
  have HAp : Hid (Apart (rels T) b) := own_apart h
  have HW0 : Hid (T.length ≠ 0 → WtC w b (T.length * 5) (mixC T k0 0)) := fun hn => by
    obtain ⟨_, cs, hk⟩ := h.blk.resolve_left hn
    refine ⟨cs, hk, fun j hj => ?_⟩
    have hc := h.rd.cell (j / 5) (by omega)
    have e3 : j = j / 5 * 5 ∨ j = j / 5 * 5 + 1 ∨ j = j / 5 * 5 + 2 ∨ j = j / 5 * 5 + 3 ∨ j = j / 5 * 5 + 4 := by omega
    have cell : ∀ i, w.cell? ⟨b, i, none⟩ = cs[i]? := fun i => by simp [World.cell?, hk]
    have em : mixC T k0 0 j = flat5 T j := by simp [mixC]
    rw [em]
    obtain ⟨q0, q1, q2, q3, q4⟩ := hc
    rw [Nat.zero_add, cell] at q0 q1 q2 q3 q4
    rcases e3 with e | e | e | e | e
    · rw [e, flat50]; exact q0
    · rw [e, flat51]; exact q1
    · rw [e, flat52]; exact q2
    · rw [e, flat53]; exact q3
    · rw [e, flat54]; exact q4
  have HE : Hid (Half (rels T) (kR T k0) lo hi 0 w) := ⟨fun j _ hj => by omega, fun j hj _ => (h.each _ (rel_mem hj)).2⟩
  have hh := h.rd.head
  have hs := h.rd.size
  have HK : Hid (∀ i, i ≤ T.length → kC T k0 i ≤ 10000000000) := fun i hi => Nat.le_trans (kC_mono T k0 hi) h1
  have HU : Hid (∀ i, i < (rels T).length → ∀ x, UseQ ((rels T).getD i re0).Q x → UseC T b x) := fun i hi x hx => .inr ⟨_, rel_mem hi, hx⟩
  have HUb : Hid (T.length ≠ 0 → UseC T b b) := fun h => .inl ⟨h, rfl⟩
  clear h h1
  obtain ⟨n, hn⟩ : ∃ n, n = T.length := ⟨_, rfl⟩
  rw [← hn] at hh hs HW0 HK HUb ⊢
  have HN : Hid (n = T.length) := hn
  clear hn
  go_enter Try.func41, Try.ntmps41
  go_wp2
  go_loopw [1, 5] (fun q i wr => ∃ k : Nat, k ≤ n ∧ i = .int .i64 k ∧ q = .int .i64 ((kC T k0 k : Nat) : Int) ∧ Kp (UseC T b) w wr ∧ (n ≠ 0 → WtC wr b (n * 5) (mixC T k0 k)) ∧ Half (rels T) (kR T k0) lo hi (2 * k) wr) (fun _ i _ => n - (intOf i).toNat)
  case atStart => exact ⟨0, Nat.zero_le _, rfl, rfl, Kp.refl _ _, HW0.out, HE.out⟩
  case round =>
    obtain ⟨k, hk, rfl, rfl, hkp, hwt, hM⟩ := hrel
    by_cases hlt : k < n
    · obtain rfl := hh (by omega)
      have hkz : (k : Int) < (n : Int) := by omega
      have hwt1 := hwt (by omega)
      clear hwt
      have hL : (rels T).length = 2 * n := by rw [rels_len, HN.out]
      have l1 : 2 * k < (rels T).length := by omega
      have l2 : 2 * k + 1 < (rels T).length := by omega
      have e2 : mixC T k0 k (k * 5 + 2) = .slice (T.getD k cm0).p.a (T.getD k cm0).p.Q.length (T.getD k cm0).p.c := by
        unfold mixC; rw [if_neg (by omega), flat52]
      have e4 : mixC T k0 k (k * 5 + 4) = .slice (T.getD k cm0).m.a (T.getD k cm0).m.Q.length (T.getD k cm0).m.c := by
        unfold mixC; rw [if_neg (by omega), flat54]
      have HKn : Hid (kC T k0 (k + 1) = kC T k0 k + 3 + cn (T.getD k cm0).p + cn (T.getD k cm0).m) := rfl
      have hK0 := Nat.lt_of_lt_of_le h0 (kC_ge T k0 k)
      have hK1 := HK.out (k + 1) hlt
      rw [HKn.out] at hK1
      have HT1 : Hid (¬ UseQ (T.getD k cm0).p.Q b) := by rw [← (rels_at T k).1]; exact (HAp.out.top _ l1).1
      have HT2 : Hid (¬ UseQ (T.getD k cm0).m.Q b) := by rw [← (rels_at T k).2]; exact (HAp.out.top _ l2).1
      have HU1 : Hid (∀ x, UseQ (T.getD k cm0).p.Q x → UseC T b x) := by rw [← (rels_at T k).1]; exact HU.out _ l1
      have HU2 : Hid (∀ x, UseQ (T.getD k cm0).m.Q x → UseC T b x) := by rw [← (rels_at T k).2]; exact HU.out _ l2
      have HO1 : Hid (∀ W, Half (rels T) (kR T k0) lo hi (2 * k) W → Rl.Own W lo hi (T.getD k cm0).p.a (T.getD k cm0).p.b (T.getD k cm0).p.Q) := fun W h => by rw [← (rels_at T k).1]; exact h.left _ l1 (Nat.le_refl _)
      have HO2 : Hid (∀ W, Half (rels T) (kR T k0) lo hi (2 * k + 1) W → Rl.Own W lo hi (T.getD k cm0).m.a (T.getD k cm0).m.b (T.getD k cm0).m.Q) := fun W h => by rw [← (rels_at T k).2]; exact h.left _ l2 (Nat.le_refl _)
      have HS1 : Hid (∀ W W', Half (rels T) (kR T k0) lo hi (2 * k) W → Kp (UseQ (T.getD k cm0).p.Q) W W' → MkQ W' (kC T k0 k + 2) (T.getD k cm0).p.a (T.getD k cm0).p.b (T.getD k cm0).p.Q → Half (rels T) (kR T k0) lo hi (2 * k + 1) W') := fun W W' h kp mk => by
        rw [← (rels_at T k).1] at kp mk
        rw [← kR0] at mk
        exact h.step HAp.out l1 kp mk
      have HS2 : Hid (∀ W W', Half (rels T) (kR T k0) lo hi (2 * k + 1) W → Kp (UseQ (T.getD k cm0).m.Q) W W' → MkQ W' (kC T k0 k + (3 + cn (T.getD k cm0).p)) (T.getD k cm0).m.a (T.getD k cm0).m.b (T.getD k cm0).m.Q → Half (rels T) (kR T k0) lo hi (2 * (k + 1)) W') := fun W W' h kp mk => by
        rw [← (rels_at T k).2] at kp mk
        rw [← kR1] at mk
        exact h.step HAp.out l2 kp mk
      have HMx : Hid (∀ j, (if j = k * 5 + 3 then Value.int .i64 ((kC T k0 k + 2 + cn (T.getD k cm0).p : Nat) : Int) else if j = k * 5 + 1 then .int .i64 ((kC T k0 k + 1 : Nat) : Int) else if j = k * 5 then .string (mt (kC T k0 k)) else mixC T k0 k j) = mixC T k0 (k + 1) j) := fun j => mixC_step
      obtain ⟨K, hK⟩ : ∃ K : Nat, K = kC T k0 k := ⟨_, rfl⟩
      clear hL l1 l2
      generalize T.getD k cm0 = x at e2 e4 HKn hK1 HT1 HT2 HU1 HU2 HO1 HO2 HS1 HS2 HMx
      obtain ⟨xs, ⟨xr, xa, xb, xo, xc, xQ⟩, ⟨yr, ya, yb, yo, yc, yQ⟩⟩ := x
      simp only [cn] at e2 e4 HKn hK1 HT1 HT2 HU1 HU2 HO1 HO2 HS1 HS2 HMx
      have c2 : wr.cell? ⟨b, k * 5 + 2, none⟩ = some (.slice xa xQ.length xc) := (hwt1.cell (by omega)).trans (congrArg some e2)
      have c4 : wr.cell? ⟨b, k * 5 + 4, none⟩ = some (.slice ya yQ.length yc) := (hwt1.cell (by omega)).trans (congrArg some e4)
      obtain ⟨u0, c0⟩ : ∃ u, wr.cell? ⟨b, k * 5, none⟩ = some u := ⟨_, hwt1.cell (by omega)⟩
      obtain ⟨u1, c1⟩ : ∃ u, wr.cell? ⟨b, k * 5 + 1, none⟩ = some u := ⟨_, hwt1.cell (by omega)⟩
      obtain ⟨u3, c3⟩ : ∃ u, wr.cell? ⟨b, k * 5 + 3, none⟩ = some u := ⟨_, hwt1.cell (by omega)⟩
      have HC4 : Hid (mixC T k0 k (k * 5 + 4) = .slice ya yQ.length yc) := e4
      have lb := hwt1.lt
      rw [← hK] at hK0 hK1 HKn HS1 HS2 HMx ⊢
      have HWt : Hid (WtC wr b (n * 5) (mixC T k0 k)) := hwt1
      have hTx := Rl.text_any K hK0 (by omega) wr
      obtain ⟨K3, hK3⟩ : ∃ K3 : Nat, K3 = K + 2 + cnt xQ xQ.length * 2 := ⟨_, rfl⟩
      have hMr := fun W o => Rl.markT_any (K + 2) (by omega) xa xb xc lo hi xQ W o (by omega)
      have hMs := fun W o => Rl.markT_any (K3 + 1) (by omega) ya yb yc lo hi yQ W o (by omega)
      have eK : (((K + 2 : Nat)) : Int) = (K : Int) + 1 + 1 := by omega
      have eK3 : (((K3 + 1 : Nat)) : Int) = (K3 : Int) + 1 := by omega
      rw [eK, ← hK3] at hMr
      rw [eK3] at hMs
      obtain ⟨K9, hK9⟩ : ∃ K9 : Nat, K9 = K3 + 1 + cnt yQ yQ.length * 2 := ⟨_, rfl⟩
      rw [← hK9] at hMs
      have HK3 : Hid (K3 = K + 2 + cnt xQ xQ.length * 2) := hK3
      have HK9 : Hid (K9 = kC T k0 (k + 1)) := by have := HKn.out; unfold Hid; omega
      have hr1 : K3 ≤ 10000000000 := by omega
      have hr2 : K9 ≤ 10000000000 := by omega
      have hr0 : K ≤ 10000000000 := by omega
      have HMs : Hid (∀ W' q, MkQ W' (K3 + 1) ya yb q → MkQ W' (K + (3 + cnt xQ xQ.length * 2)) ya yb q) := fun W' q h => by
        have e : K3 + 1 = K + (3 + cnt xQ xQ.length * 2) := by rw [HK3.out]; omega
        rw [← e]; exact h
      clear hK e2 e4 hwt1 eK eK3 hK3 hK9 hK1
      have fr : ∀ i, wr.frozen? ⟨b, i, none⟩ = false := fun i => HWt.out.frozen i
      have tok2 : True := trivial
      go_wp2_with (first
        | (go_at_call 67; refine hTx.mono ?_; rintro e w1 ⟨rfl, hb⟩; clear hTx; have f0 := (hb.frozen (p := ⟨b, k * 5, none⟩) lb).trans (fr _); have f1 := (hb.frozen (p := ⟨b, k * 5 + 1, none⟩) lb).trans (fr _); clear fr; replace c0 := (hb.cell lb).trans c0; replace c1 := (hb.cell lb).trans c1; replace c2 := (hb.cell lb).trans c2; have lb1 : b < w1.heap.size := Nat.lt_of_lt_of_le lb hb.size; have HW1 : Hid (WtC ((w1.setCell ⟨b, k * 5, none⟩ (.string (mt K))).setCell ⟨b, k * 5 + 1, none⟩ (.int .i64 ((K : Int) + 1))) b (n * 5) (fun j => if j = k * 5 + 1 then .int .i64 ((K : Int) + 1) else if j = k * 5 then .string (mt K) else mixC T k0 k j)) := ((HWt.out.of_block (hb.block _ lb)).set _ _).set _ _; have HM1 : Hid (Half (rels T) (kR T k0) lo hi (2 * k) ((w1.setCell ⟨b, k * 5, none⟩ (.string (mt K))).setCell ⟨b, k * 5 + 1, none⟩ (.int .i64 ((K : Int) + 1)))) := hM.keep HAp.out (fun x hx hxb => by rw [Below.heap_setCell _ _ _ _ (by simpa using hxb), Below.heap_setCell _ _ _ _ (by simpa using hxb), hb.block x hx]); have HP1 : Hid (Kp (UseC T b) w ((w1.setCell ⟨b, k * 5, none⟩ (.string (mt K))).setCell ⟨b, k * 5 + 1, none⟩ (.int .i64 ((K : Int) + 1)))) := ((hkp.next hb).set (a := ⟨b, k * 5, none⟩) (HUb.out (by omega))).set (a := ⟨b, k * 5 + 1, none⟩) (HUb.out (by omega)); clear hM hkp HWt c3 c4)
        | (go_at_call 68; clear tok2; refine (hMr _ (HO1.out _ HM1.out)).mono ?_; rintro e w2 ⟨rfl, kp, mk⟩; have HW2 : Hid (WtC w2 b (n * 5) (fun j => if j = k * 5 + 1 then .int .i64 ((K : Int) + 1) else if j = k * 5 then .string (mt K) else mixC T k0 k j)) := HW1.out.of_block (kp.block _ HW1.out.lt HT1.out); have f3 := HW2.out.frozen (k * 5 + 3); obtain ⟨u3, c3⟩ : ∃ u, w2.cell? ⟨b, k * 5 + 3, none⟩ = some u := ⟨_, HW2.out.cell (by omega)⟩; have c5 := HW2.out.cell (i := k * 5 + 4) (by omega); rw [if_neg (by omega), if_neg (by omega)] at c5; have c4 := c5.trans (congrArg some HC4.out); clear c5; have lb2 := HW2.out.lt; have HM2 : Hid (Half (rels T) (kR T k0) lo hi (2 * k + 1) (w2.setCell ⟨b, k * 5 + 3, none⟩ (.int .i64 (K3 : Int)))) := (HS1.out _ _ HM1.out kp mk).keep HAp.out (fun x hx hxb => by rw [Below.heap_setCell _ _ _ _ (by simpa using hxb)]); have HP2 : Hid (Kp (UseC T b) w (w2.setCell ⟨b, k * 5 + 3, none⟩ (.int .i64 (K3 : Int)))) := (HP1.out.trans (kp.imp HU1.out)).set (a := ⟨b, k * 5 + 3, none⟩) (HUb.out (by omega)); have HW3 : Hid (WtC (w2.setCell ⟨b, k * 5 + 3, none⟩ (.int .i64 (K3 : Int))) b (n * 5) (fun j => if j = k * 5 + 3 then .int .i64 (K3 : Int) else if j = k * 5 + 1 then .int .i64 ((K : Int) + 1) else if j = k * 5 then .string (mt K) else mixC T k0 k j)) := HW2.out.set _ _; clear HW1 HM1 HP1 HW2 kp mk; have tok3 : True := trivial)
        | (go_at_call 68; clear tok3; refine (hMs _ (HO2.out _ HM2.out)).mono ?_; rintro e w3 ⟨rfl, kp, mk⟩))
      go_roundw
      case rel =>
        refine ⟨k + 1, by omega, by go_num, by rw [HK9.out], HP2.out.trans (kp.imp HU2.out), fun _ => ?_, HS2.out _ _ HM2.out kp (HMs.out _ _ mk)⟩
        refine (HW3.out.of_block (kp.block _ HW3.out.lt HT2.out)).congr fun j _ => ?_
        rw [← HMx.out j]
        have q1 : (((K + 1 : Nat)) : Int) = (K : Int) + 1 := by omega
        rw [q1, ← HK3.out]
      case measure => simp [intOf]; omega
    · have he : k = n := by omega
      subst he
      go_wp2
      go_ret
      have hn2 := HN.out
      refine ⟨rfl, hkp, ⟨by rw [← hn2]; exact hh, fun hne => ?_, fun i hi => hM.mark i hi (by rw [rels_len] at hi; omega), by omega⟩⟩
      rw [← hn2]
      refine (hwt (by omega)).congr fun j hj => ?_
      unfold mixC; rw [if_pos hj]

theorem markDl_any (k0 : Nat) (h0 : 0 < k0) (a : Option Addr) (b cap lo hi : Nat) (T : List Cm) (w : World) (h : Own w lo hi a b T) (h1 : kC T k0 T.length ≤ 10000000000) :
    Calls Try.prog 17 #[.agg #[.slice a T.length cap], .int .i64 k0] w fun e w' => e = .returned (.int .i64 ((kC T k0 T.length : Nat) : Int)) ∧ Kp (UseC T b) w w' ∧ MkC w' k0 a b T := by
  have B := below_alloc1 w (.cells #[.slice a T.length cap] 29)
  have hM := markCs_any k0 h0 a b cap lo hi T _ (h.below B) h1
  have HB : Hid (Kp (UseC T b) w (w.alloc (.cells #[.slice a T.length cap] 29))) := (Kp.refl _ _).next B
  generalize kC T k0 T.length = K at hM ⊢
  go_enter Try.func17, Try.ntmps17
  go_wp2_with (go_at_call 41; refine hM.mono ?_; rintro e w1 ⟨rfl, kp, mk⟩)
  go_ret
  exact ⟨rfl, HB.out.trans kp, mk⟩

end Go.Proofs.Ytkpchlojapkimaa.Ch

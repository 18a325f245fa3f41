/-
  Marks in stores: written.
-/
import Derived.Test.YtljlgjgfmgilaaaGreatSc
import Derived.Test.YtljlgjgfmgilaaaGreatMda
namespace Go.Proofs.YtljlgjgfmgilaaaGreat.St
set_option maxRecDepth 8000
set_option linter.unusedSimpArgs false
set_option linter.unusedVariables false
open Go Go.ChangeShapes Go.WideShapes Go.RowKit
open Num Word Pl Rp
open Rl (Rm rm0 said Kp UseQ MkQ cnt mt)

def WtN (w : World) (b n : Nat) (f : Nat → Value) : Prop := ∃ cs : Array Value, w.heap[b]? = some (.cells cs 113 (0, 0)) ∧ ∀ j, j < n → cs[j]? = some (f j)
theorem WtN.cell {w : World} {b n : Nat} {f : Nat → Value} (h : WtN w b n f) {i : Nat} (hi : i < n) : w.cell? ⟨b, i, none⟩ = some (f i) := by
  obtain ⟨c, hb, hc⟩ := h
  simp [World.cell?, hb, hc i hi]
theorem WtN.frozen {w : World} {b n : Nat} {f : Nat → Value} (h : WtN w b n f) (i : Nat) : w.frozen? ⟨b, i, none⟩ = false := by
  obtain ⟨c, hb, _⟩ := h
  simp [World.frozen?, hb]
theorem WtN.lt {w : World} {b n : Nat} {f : Nat → Value} (h : WtN w b n f) : b < w.heap.size := by
  obtain ⟨c, hb, _⟩ := h
  exact blk_lt hb
theorem WtN.congr {w : World} {b n : Nat} {f g : Nat → Value} (h : WtN w b n f) (e : ∀ i, i < n → f i = g i) : WtN w b n g := by
  obtain ⟨c, hb, hc⟩ := h
  exact ⟨c, hb, fun i hi => by rw [hc i hi, e i hi]⟩
theorem WtN.of_block {w w' : World} {b n : Nat} {f : Nat → Value} (h : WtN w b n f) (e : w'.heap[b]? = w.heap[b]?) : WtN w' b n f := by
  obtain ⟨c, hb, hc⟩ := h
  exact ⟨c, e.trans hb, hc⟩
theorem WtN.set {w : World} {b n : Nat} {f : Nat → Value} (h : WtN w b n f) (i : Nat) (v : Value) : WtN (w.setCell ⟨b, i, none⟩ v) b n (fun j => if j = i then v else f j) := by
  obtain ⟨c, hb, hc⟩ := h
  refine ⟨c.setIfInBounds i v, ?_, fun j hj => ?_⟩
  · simp [World.setCell, Array.getElem?_modify, hb]
  · rw [Array.getElem?_setIfInBounds]
    by_cases e : j = i
    · subst e
      have hj' : j < c.size := (Array.getElem?_eq_some_iff.1 (hc j hj)).1
      simp [hj']
    · rw [if_neg (fun h => e h.symm)]
      show c[j]? = some (if j = i then v else f j)
      rw [if_neg e]
      exact hc j hj

/-- The mark that the named relation i begins with. -/
def kN (T : List Nm) (k0 : Nat) : Nat → Nat
  | 0 => k0
  | i + 1 => kN T k0 i + 2 + cnt (T.getD i nm0).Q (T.getD i nm0).Q.length * 2
theorem kN_mono (T : List Nm) (k0 : Nat) {i j : Nat} (h : i ≤ j) : kN T k0 i ≤ kN T k0 j := by
  induction j with
  | zero => have : i = 0 := by omega
            subst this; exact Nat.le_refl _
  | succ j ih =>
    by_cases e : i = j + 1
    · subst e; exact Nat.le_refl _
    · have := ih (by omega)
      simp only [kN]; omega
theorem kN_ge (T : List Nm) (k0 i : Nat) : k0 ≤ kN T k0 i := kN_mono T k0 (Nat.zero_le i)
def mkN (T : List Nm) (k0 j : Nat) : Value := if j % 3 = 0 then .string (mt (kN T k0 (j / 3))) else if j % 3 = 1 then .int .i64 ((kN T k0 (j / 3) + 1 : Nat) : Int) else .slice (T.getD (j / 3) nm0).a (T.getD (j / 3) nm0).Q.length (T.getD (j / 3) nm0).c
def mixN (T : List Nm) (k0 k j : Nat) : Value := if j < k * 3 then mkN T k0 j else flat3 T j
theorem mixN_step {w : World} {b n k0 k : Nat} {T : List Nm} (h : WtN w b n (mixN T k0 k)) :
    WtN ((w.setCell ⟨b, k * 3, none⟩ (.string (mt (kN T k0 k)))).setCell ⟨b, k * 3 + 1, none⟩ (.int .i64 ((kN T k0 k + 1 : Nat) : Int))) b n (mixN T k0 (k + 1)) := by
  refine ((h.set _ _).set _ _).congr fun j hj => ?_
  have a0 : k * 3 % 3 = 0 := by omega
  have a1 : (k * 3 + 1) % 3 = 1 := by omega
  have a2 : (k * 3 + 2) % 3 = 2 := by omega
  have d0 : k * 3 / 3 = k := by omega
  have d1 : (k * 3 + 1) / 3 = k := by omega
  have d2 : (k * 3 + 2) / 3 = k := by omega
  by_cases e1 : j = k * 3 + 1
  · subst e1
    rw [if_pos rfl]
    simp only [mixN, mkN, a1, d1]
    rw [if_pos (by omega)]; rfl
  · rw [if_neg e1]
    by_cases e0 : j = k * 3
    · subst e0
      rw [if_pos rfl]
      simp only [mixN, mkN, a0, d0]
      rw [if_pos (by omega)]; rfl
    · rw [if_neg e0]
      by_cases e2 : j = k * 3 + 2
      · subst e2
        unfold mixN
        rw [if_neg (by omega : ¬ k * 3 + 2 < k * 3), if_pos (by omega : k * 3 + 2 < (k + 1) * 3), flat32]
        unfold mkN
        rw [a2, d2]; rfl
      · simp only [mixN]
        by_cases e3 : j < k * 3
        · rw [if_pos e3, if_pos (by omega)]
        · rw [if_neg e3, if_neg (by omega)]

theorem kN_told {T U : List Nm} (h : told T = told U) (k0 : Nat) : ∀ i, kN T k0 i = kN U k0 i
  | 0 => rfl
  | i + 1 => by
    simp only [kN, kN_told h k0 i]
    have hl : T.length = U.length := by rw [← told_len, ← told_len, h]
    by_cases hi : i < T.length
    · have e : (T.getD i nm0).l = (U.getD i nm0).l := by rw [← told_at hi, ← told_at (by omega), h]
      have e2 : said (T.getD i nm0).Q = said (U.getD i nm0).Q := congrArg (fun x => x.2.2) e
      have e3 := Rl.cnt_said e2 (T.getD i nm0).Q.length
      have e4 : (T.getD i nm0).Q.length = (U.getD i nm0).Q.length := by rw [← Rl.said_len, ← Rl.said_len, e2]
      rw [e4] at e3 ⊢
      rw [e3]
    · have e1 : T.getD i nm0 = nm0 := by simp [List.getD, List.getElem?_eq_none (Nat.le_of_not_lt hi)]
      have e2 : U.getD i nm0 = nm0 := by simp [List.getD, List.getElem?_eq_none (by omega : U.length ≤ i)]
      rw [e1, e2]
theorem kN_raw {Q : List Nm} {T : List Raw} (hl : Q.length = T.length) (h : ∀ i, i < T.length → (Q.getD i nm0).Q.length = (T.getD i raw0).S.length ∧ said (Q.getD i nm0).Q = (T.getD i raw0).S.map Rl.Raw.l) : ∀ i, i ≤ Q.length → kN Q 1 i ≤ 1 + 2 * (i + totN T i)
  | 0, _ => by simp [kN]
  | i + 1, hi => by
    have ih := kN_raw hl h i (by omega)
    obtain ⟨e1, e2⟩ := h i (by omega)
    have := Rl.cnt_raw e2 e1 (Q.getD i nm0).Q.length (Nat.le_refl _)
    simp only [kN, totN, wt]
    rw [e1] at this ⊢
    omega

/-- The blocks that marks turn. -/
def UseN (T : List Nm) (b x : Nat) : Prop := (T.length ≠ 0 ∧ x = b) ∨ ∃ y ∈ T, UseQ y.Q x
structure MkN (w : World) (k0 : Nat) (a : Option Addr) (b : Nat) (T : List Nm) : Prop where
  head : 0 < T.length → a = some ⟨b, 0, none⟩
  row : T.length ≠ 0 → WtN w b (T.length * 3) (mkN T k0)
  each : ∀ i, i < T.length → MkQ w (kN T k0 i + 2) (T.getD i nm0).a (T.getD i nm0).b (T.getD i nm0).Q
  size : T.length ≤ 4194304
theorem own_keepU {w w' : World} {lo hi : Nat} {a : Option Addr} {b : Nat} {Q : List Rm} (h : Rl.Own w lo hi a b Q) (hb : Q.length ≠ 0 → w'.heap[b]? = w.heap[b]?) (hr : ∀ x, UseQ Q x → w'.heap[x]? = w.heap[x]?) : Rl.Own w' lo hi a b Q := by
  refine ⟨h.rd.keep ?_ ?_, ?_, fun r hr' h0 => ?_, h.diff⟩
  · by_cases h0 : Q.length = 0
    · exact .inl h0
    · exact .inr (hb h0)
  · intro r hr'
    by_cases h0 : r.l.length = 0
    · exact .inl h0
    · exact .inr (hr _ ⟨r, hr', h0, rfl⟩)
  · by_cases h0 : Q.length = 0
    · exact .inl h0
    · obtain ⟨h1, cs, h2⟩ := h.blk.resolve_left h0
      exact .inr ⟨h1, cs, (hb h0).trans h2⟩
  · obtain ⟨e, h1, h3, h2⟩ := h.each r hr' h0
    exact ⟨e, h1, h3, h2.of_block (hr _ ⟨r, hr', h0, rfl⟩)⟩
theorem mkq_keepU {w w' : World} {k0 : Nat} {a : Option Addr} {b : Nat} {Q : List Rm} (h : MkQ w k0 a b Q) (hb : Q.length ≠ 0 → w'.heap[b]? = w.heap[b]?) (hr : ∀ x, UseQ Q x → w'.heap[x]? = w.heap[x]?) : MkQ w' k0 a b Q :=
  ⟨h.head, fun i hi => (World.cell?_of_block (hb (by omega))).trans (h.cell i hi), fun i hi h0 => by obtain ⟨h1, h2⟩ := h.mark i hi h0; exact ⟨h1, h2.of_block (hr _ ⟨_, Rl.getD_mem hi, h0, rfl⟩)⟩, h.size, h.sizes⟩
theorem MkN.below {w w' : World} {k0 : Nat} {a : Option Addr} {b : Nat} {T : List Nm} (h : MkN w k0 a b T) (hb : Below w.heap.size w w') : MkN w' k0 a b T :=
  ⟨h.head, fun h0 => (h.row h0).of_block (hb.block _ (h.row h0).lt), fun i hi => (h.each i hi).below hb, h.size⟩

theorem mem_getD {Q : List Rm} {r : Rm} (h : r ∈ Q) : ∃ i, i < Q.length ∧ Q.getD i rm0 = r := by
  obtain ⟨i, hi, e⟩ := List.getElem_of_mem h
  exact ⟨i, hi, by simpa [List.getD, hi] using e⟩
/-- What the blocks of a store of the call's own have to do with one another. -/
structure Apart (T : List Nm) (b : Nat) : Prop where
  rows : ∀ i j, i < T.length → j < T.length → i ≠ j → ∀ x, UseQ (T.getD i nm0).Q x → ¬ UseQ (T.getD j nm0).Q x
  list : ∀ i j, i < T.length → j < T.length → (T.getD i nm0).Q.length ≠ 0 → ¬ UseQ (T.getD j nm0).Q (T.getD i nm0).b
  top : ∀ i, i < T.length → ¬ UseQ (T.getD i nm0).Q b ∧ ((T.getD i nm0).Q.length ≠ 0 → (T.getD i nm0).b ≠ b)
theorem own_apart {w : World} {lo hi : Nat} {a : Option Addr} {b : Nat} {T : List Nm} (h : Own w lo hi a b T) : Apart T b := by
  have hE := fun i (hi : i < T.length) => (h.each _ (mem_at hi)).2
  have hU : ∀ i, i < T.length → ∀ x, UseQ (T.getD i nm0).Q x → ∃ cs, w.heap[x]? = some (.cells cs 92 (0, 0)) := fun i hi x ⟨r, hr, h0, e⟩ => by
    obtain ⟨_, _, _, cs, h2, _⟩ := (hE i hi).each r hr h0
    exact ⟨cs, e ▸ h2⟩
  have hL : ∀ i, i < T.length → (T.getD i nm0).Q.length ≠ 0 → ∃ cs, w.heap[(T.getD i nm0).b]? = some (.cells cs 149 (0, 0)) := fun i hi h0 => ((hE i hi).blk.resolve_left h0).2
  have hT : T.length ≠ 0 → ∃ cs, w.heap[b]? = some (.cells cs 113 (0, 0)) := fun h0 => (h.blk.resolve_left h0).2
  have pa : ∀ i j, (hi : i < T.length) → (hj : j < T.length) → i < j → ∀ r ∈ (T.getD i nm0).Q, ∀ q ∈ (T.getD j nm0).Q, r.l.length ≠ 0 → q.l.length ≠ 0 → r.b ≠ q.b := fun i j hi hj hij => by
    have := List.pairwise_iff_getElem.1 h.diff i j hi hj hij
    simpa [List.getD, hi, hj] using this
  refine ⟨fun i j hi hj hij x ⟨r, hr, h0, e⟩ ⟨q, hq, h0', e'⟩ => ?_, fun i j hi hj h0 hu => ?_, fun i hi => ⟨fun hu => ?_, fun h0 e => ?_⟩⟩
  · rcases Nat.lt_or_ge i j with c | c
    · exact pa i j hi hj c r hr q hq h0 h0' (e.symm.trans e')
    · exact pa j i hj hi (by omega) q hq r hr h0' h0 (e'.symm.trans e)
  · obtain ⟨c1, q1⟩ := hU j hj _ hu
    obtain ⟨c2, q2⟩ := hL i hi h0
    rw [q1] at q2; simp at q2
  · obtain ⟨c1, q1⟩ := hU i hi _ hu
    obtain ⟨c2, q2⟩ := hT (by omega)
    rw [q1] at q2; simp at q2
  · obtain ⟨c1, q1⟩ := hL i hi h0
    obtain ⟨c2, q2⟩ := hT (by omega)
    rw [e, q2] at q1; simp at q1
theorem own_use {w : World} {lo hi : Nat} {a : Option Addr} {b : Nat} {T : List Nm} (h : Own w lo hi a b T) (hb : b < hi) {x : Nat} (hu : UseN T b x) : lo ≤ x ∧ x < hi := by
  rcases hu with ⟨h0, rfl⟩ | ⟨y, hy, r, hr, h0, rfl⟩
  · exact ⟨(h.blk.resolve_left h0).1, hb⟩
  · obtain ⟨_, h1, h2, _⟩ := (h.each y hy).2.each r hr h0
    exact ⟨h1, h2⟩

theorem own_use' {w : World} {lo hi : Nat} {a : Option Addr} {b : Nat} {T : List Nm} (h : Own w lo hi a b T) (hb : T.length ≠ 0 → b < hi) {x : Nat} (hu : UseN T b x) : lo ≤ x ∧ x < hi := by
  rcases hu with ⟨h0, rfl⟩ | ⟨y, hy, r, hr, h0, rfl⟩
  · exact ⟨(h.blk.resolve_left h0).1, hb h0⟩
  · obtain ⟨_, h1, h2, _⟩ := (h.each y hy).2.each r hr h0
    exact ⟨h1, h2⟩

set_option maxHeartbeats 4000000 in
theorem markNs_any (k0 : Nat) (h0 : 0 < k0) (a : Option Addr) (b cap lo hi : Nat) (T : List Nm) (w : World) (h : Own w lo hi a b T) (h1 : kN T k0 T.length ≤ 10000000000) :
    Calls Tryz.prog 34 #[.slice a T.length cap, .int .i64 k0] w fun e w' => e = .returned (.int .i64 ((kN T k0 T.length : Nat) : Int)) ∧ Kp (UseN T b) w w' ∧ MkN w' k0 a b T := by
  have HAp : Hid (Apart T b) := own_apart h
  have HW0 : Hid (T.length ≠ 0 → WtN w b (T.length * 3) (mixN T k0 0)) := fun hn => by
    obtain ⟨_, cs, hk⟩ := h.blk.resolve_left hn
    refine ⟨cs, hk, fun j hj => ?_⟩
    have hc := h.rd.cell (j / 3) (by omega)
    have e3 : j = j / 3 * 3 ∨ j = j / 3 * 3 + 1 ∨ j = j / 3 * 3 + 2 := by omega
    have cell : ∀ i, w.cell? ⟨b, i, none⟩ = cs[i]? := fun i => by simp [World.cell?, hk]
    have em : mixN T k0 0 j = flat3 T j := by simp [mixN]
    rw [em]
    obtain ⟨q0, q1, q2⟩ := hc
    rw [Nat.zero_add, cell] at q0 q1 q2
    rcases e3 with e | e | e
    · rw [e, flat30]; exact q0
    · rw [e, flat31]; exact q1
    · rw [e, flat32]; exact q2
  have HE : Hid (∀ i, i < T.length → Rl.Own w lo hi (T.getD i nm0).a (T.getD i nm0).b (T.getD i nm0).Q) := fun i hi => (h.each _ (mem_at hi)).2
  have hh := h.rd.head
  have hs := h.rd.size
  have HK : Hid (∀ i, i ≤ T.length → kN T k0 i ≤ 10000000000) := fun i hi => Nat.le_trans (kN_mono T k0 hi) h1
  have HU : Hid (∀ i, i < T.length → ∀ x, UseQ (T.getD i nm0).Q x → UseN T b x) := fun i hi x hx => .inr ⟨_, mem_at hi, hx⟩
  have HUb : Hid (T.length ≠ 0 → UseN T b b) := fun h => .inl ⟨h, rfl⟩
  clear h h1
  obtain ⟨n, hn⟩ : ∃ n, n = T.length := ⟨_, rfl⟩
  have HAp' : Hid ((∀ i j, i < n → j < n → i ≠ j → ∀ x, UseQ (T.getD i nm0).Q x → ¬ UseQ (T.getD j nm0).Q x) ∧ (∀ i j, i < n → j < n → (T.getD i nm0).Q.length ≠ 0 → ¬ UseQ (T.getD j nm0).Q (T.getD i nm0).b) ∧ ∀ i, i < n → ¬ UseQ (T.getD i nm0).Q b ∧ ((T.getD i nm0).Q.length ≠ 0 → (T.getD i nm0).b ≠ b)) := by
    subst hn; exact ⟨HAp.out.rows, HAp.out.list, HAp.out.top⟩
  rw [← hn] at hh hs HW0 HE HK HU HUb ⊢
  have HN : Hid (n = T.length) := hn
  clear hn HAp
  go_enter Tryz.func34, Tryz.ntmps34
  go_wp2
  go_loopw [1, 5] (fun q i wr => ∃ k : Nat, k ≤ n ∧ i = .int .i64 k ∧ q = .int .i64 ((kN T k0 k : Nat) : Int) ∧ Kp (UseN T b) w wr ∧ (n ≠ 0 → WtN wr b (n * 3) (mixN T k0 k)) ∧ (∀ j, j < n → j < k → MkQ wr (kN T k0 j + 2) (T.getD j nm0).a (T.getD j nm0).b (T.getD j nm0).Q) ∧ (∀ j, j < n → k ≤ j → Rl.Own wr lo hi (T.getD j nm0).a (T.getD j nm0).b (T.getD j nm0).Q)) (fun _ i _ => n - (intOf i).toNat)
  case atStart => exact ⟨0, Nat.zero_le _, rfl, rfl, Kp.refl _ _, HW0.out, fun j _ hj => by omega, fun j hj _ => HE.out j hj⟩
  case round =>
    obtain ⟨k, hk, rfl, rfl, hkp, hwt, hmk, how⟩ := hrel
    have HM : Hid (∀ j, j < n → j < k → MkQ wr (kN T k0 j + 2) (T.getD j nm0).a (T.getD j nm0).b (T.getD j nm0).Q) := hmk
    have HO : Hid (∀ j, j < n → k ≤ j → Rl.Own wr lo hi (T.getD j nm0).a (T.getD j nm0).b (T.getD j nm0).Q) := how
    clear hmk how
    by_cases hlt : k < n
    · obtain rfl := hh (by omega)
      have hkz : (k : Int) < (n : Int) := by omega
      have hwt1 := hwt (by omega)
      clear hwt
      have o1 := HO.out k hlt (Nat.le_refl _)
      have e2 : mixN T k0 k (k * 3 + 2) = .slice (T.getD k nm0).a (T.getD k nm0).Q.length (T.getD k nm0).c := by
        unfold mixN; rw [if_neg (by omega), flat32]
      have HKn : Hid (kN T k0 (k + 1) = kN T k0 k + 2 + cnt (T.getD k nm0).Q (T.getD k nm0).Q.length * 2) := rfl
      have hK0 := Nat.lt_of_lt_of_le h0 (kN_ge T k0 k)
      have hK1 := HK.out (k + 1) hlt
      rw [HKn.out] at hK1
      have HAk : Hid (∀ j, j < n → j ≠ k → (∀ x, UseQ (T.getD j nm0).Q x → ¬ UseQ (T.getD k nm0).Q x) ∧ ((T.getD j nm0).Q.length ≠ 0 → ¬ UseQ (T.getD k nm0).Q (T.getD j nm0).b)) := fun j hj hjk => ⟨HAp'.out.1 j k hj hlt hjk, HAp'.out.2.1 j k hj hlt⟩
      have HTk : Hid (¬ UseQ (T.getD k nm0).Q b ∧ ((T.getD k nm0).Q.length ≠ 0 → (T.getD k nm0).b ≠ b)) := HAp'.out.2.2 k hlt
      have HUk : Hid (∀ x, UseQ (T.getD k nm0).Q x → UseN T b x) := HU.out k hlt
      have HX : Hid (∀ j, j = k → T.getD j nm0 = T.getD k nm0) := fun j e => by rw [e]
      obtain ⟨K, hK⟩ : ∃ K : Nat, K = kN T k0 k := ⟨_, rfl⟩
      generalize T.getD k nm0 = x at o1 e2 HKn hK1 HAk HTk HUk HX
      obtain ⟨xs, xr, xa, xb, xo, xc, xQ⟩ := x
      simp only at o1 e2 HKn hK1 HAk HTk HUk HX
      have c2 : wr.cell? ⟨b, k * 3 + 2, none⟩ = some (.slice xa xQ.length xc) := (hwt1.cell (by omega)).trans (congrArg some e2)
      obtain ⟨u0, c0⟩ : ∃ u, wr.cell? ⟨b, k * 3, none⟩ = some u := ⟨_, hwt1.cell (by omega)⟩
      obtain ⟨u1, c1⟩ : ∃ u, wr.cell? ⟨b, k * 3 + 1, none⟩ = some u := ⟨_, hwt1.cell (by omega)⟩
      have f0 := hwt1.frozen (k * 3)
      have f1 := hwt1.frozen (k * 3 + 1)
      have lb := hwt1.lt
      rw [← hK] at hK0 hK1 HKn ⊢
      have HKe : Hid (K = kN T k0 k) := hK
      have HWt : Hid (WtN wr b (n * 3) (mixN T k0 k)) := hwt1
      have hTx := Rl.text_any K hK0 (by omega) wr
      have hMr := fun W o => Rl.markT_any (K + 2) (by omega) xa xb xc lo hi xQ W o (by omega)
      have eK : (((K + 2 : Nat)) : Int) = (K : Int) + 1 + 1 := by omega
      rw [eK] at hMr
      clear hK e2 hwt1 eK
      go_wp2_with (first
        | (go_at_call 66; refine hTx.mono ?_; rintro e w1 ⟨rfl, hb⟩; clear hTx; replace c0 := (hb.cell lb).trans c0; replace c1 := (hb.cell lb).trans c1; replace c2 := (hb.cell lb).trans c2; replace f0 := (hb.frozen (p := ⟨b, k * 3, none⟩) lb).trans f0; replace f1 := (hb.frozen (p := ⟨b, k * 3 + 1, none⟩) lb).trans f1)
        | (go_at_call 69; refine (hMr _ (own_keepU (o1.below hb) (fun hq => ?_) (fun x hx => ?_))).mono ?_))
      · rw [Below.heap_setCell _ _ _ _ (by simpa using HTk.out.2 hq), Below.heap_setCell _ _ _ _ (by simpa using HTk.out.2 hq)]
      · have hne : x ≠ b := fun e => HTk.out.1 (e ▸ hx)
        rw [Below.heap_setCell _ _ _ _ (by simpa using hne), Below.heap_setCell _ _ _ _ (by simpa using hne)]
      · rintro e w2 ⟨rfl, kp, mk⟩
        go_wp2
        go_roundw
        case rel =>
          have hset : ∀ x, x ≠ b → ((w1.setCell ⟨b, k * 3, none⟩ (.string (mt K))).setCell ⟨b, k * 3 + 1, none⟩ (.int .i64 ((K : Int) + 1))).heap[x]? = w1.heap[x]? := fun x hx => by
            rw [Below.heap_setCell _ _ _ _ (by simpa using hx), Below.heap_setCell _ _ _ _ (by simpa using hx)]
          have hall : ∀ x, x < wr.heap.size → x ≠ b → ¬ UseQ xQ x → w2.heap[x]? = wr.heap[x]? := fun x hx hb' hu => by
            have s1 := hb.size
            rw [kp.block x (by simp; omega) hu, hset x hb', hb.block x hx]
          have hKe := HKe.out
          refine ⟨k + 1, by omega, by go_num, ?_, ?_, fun _ => ?_, fun j hj hjk => ?_, fun j hj hjk => ?_⟩
          · rw [HKn.out]; congr 1
          · exact ((hkp.next hb).set (a := ⟨b, k * 3, none⟩) (HUb.out (by omega))).set (a := ⟨b, k * 3 + 1, none⟩) (HUb.out (by omega)) |>.trans (kp.imp HUk.out)
          · have q := mixN_step (HWt.out.of_block (hb.block _ lb))
            rw [← hKe] at q
            have ee : (((K + 1 : Nat)) : Int) = (K : Int) + 1 := by omega
            rw [ee] at q
            exact q.of_block (kp.block _ q.lt HTk.out.1)
          · by_cases e : j = k
            · have ex := HX.out j e
              rw [ex, e, ← hKe]
              exact mk
            · have q := HM.out j hj (by omega)
              obtain ⟨q1, q2⟩ := HAk.out j hj e
              obtain ⟨q3, q4⟩ := HAp'.out.2.2 j hj
              have lj : ∀ x, UseQ (T.getD j nm0).Q x → x < wr.heap.size := fun x ⟨r, hr, h0, ex⟩ => by
                obtain ⟨i, hi, er⟩ := mem_getD hr
                have := (q.mark i hi (by rw [er]; exact h0)).2.lt
                rw [er] at this
                rw [ex]; exact this
              exact mkq_keepU q (fun h0 => hall _ (World.block_lt_of_cell? _ _ (q.cell 0 (by omega))) (q4 h0) (q2 h0)) (fun x hx => hall x (lj x hx) (fun e => q3 (e ▸ hx)) (q1 x hx))
          · have q := HO.out j hj (by omega)
            obtain ⟨q1, q2⟩ := HAk.out j hj (by omega)
            obtain ⟨q3, q4⟩ := HAp'.out.2.2 j hj
            exact own_keepU q (fun h0 => hall _ (blk_lt (q.blk.resolve_left h0).2.choose_spec) (q4 h0) (q2 h0)) (fun x hx => hall x (by obtain ⟨r, hr, h0, ex⟩ := hx; rw [ex]; exact (q.each r hr h0).2.2.2.lt) (fun e => q3 (e ▸ hx)) (q1 x hx))
        case measure => simp [intOf]; omega
    · have he : k = n := by omega
      subst he
      go_wp2
      go_ret
      have hn2 := HN.out
      refine ⟨rfl, hkp, ⟨by rw [← hn2]; exact hh, fun hne => ?_, fun i hi => HM.out i (by omega) (by omega), by omega⟩⟩
      rw [← hn2]
      refine (hwt (by omega)).congr fun j hj => ?_
      unfold mixN; rw [if_pos hj]

theorem markSt_any (k0 : Nat) (h0 : 0 < k0) (a : Option Addr) (b cap lo hi : Nat) (T : List Nm) (w : World) (h : Own w lo hi a b T) (h1 : kN T k0 T.length ≤ 10000000000) :
    Calls Tryz.prog 14 #[.agg #[.slice a T.length cap], .int .i64 k0] w fun e w' => e = .returned (.int .i64 ((kN T k0 T.length : Nat) : Int)) ∧ Kp (UseN T b) w w' ∧ MkN w' k0 a b T := by
  have B := below_alloc1 w (.cells #[.slice a T.length cap] 38)
  have hM := markNs_any k0 h0 a b cap lo hi T _ (h.below B) h1
  have HB : Hid (Kp (UseN T b) w (w.alloc (.cells #[.slice a T.length cap] 38))) := (Kp.refl _ _).next B
  generalize kN T k0 T.length = K at hM ⊢
  go_enter Tryz.func14, Tryz.ntmps14
  go_wp2_with (go_at_call 34; refine hM.mono ?_; rintro e w1 ⟨rfl, kp, mk⟩)
  go_ret
  exact ⟨rfl, HB.out.trans kp, mk⟩

end Go.Proofs.YtljlgjgfmgilaaaGreat.St

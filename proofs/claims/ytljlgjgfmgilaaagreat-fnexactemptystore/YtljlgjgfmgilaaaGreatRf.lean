/-
  Relations of the call's own; copies; likeness.
-/
import Derived.Test.YtljlgjgfmgilaaaGreatRa
namespace Go.Proofs.YtljlgjgfmgilaaaGreat.Rl
set_option maxRecDepth 8000
set_option linter.unusedSimpArgs false
set_option linter.unusedVariables false
open Go Go.RowKit
open Num Word Pl Rp

/-- The first n cells of block b hold f; none is frozen; it is a block of values. -/
def WtV (w : World) (b n : Nat) (f : Nat → Value) : Prop := ∃ cs : Array Value, w.heap[b]? = some (.cells cs 92 (0, 0)) ∧ ∀ j, j < n → cs[j]? = some (f j)
theorem WtV.cell {w : World} {b n : Nat} {f : Nat → Value} (h : WtV w b n f) {i : Nat} (hi : i < n) : w.cell? ⟨b, i, none⟩ = some (f i) := by
  obtain ⟨c, hb, hc⟩ := h
  simp [World.cell?, hb, hc i hi]
theorem WtV.frozen {w : World} {b n : Nat} {f : Nat → Value} (h : WtV w b n f) (i : Nat) : w.frozen? ⟨b, i, none⟩ = false := by
  obtain ⟨c, hb, _⟩ := h
  simp [World.frozen?, hb]
theorem WtV.lt {w : World} {b n : Nat} {f : Nat → Value} (h : WtV w b n f) : b < w.heap.size := by
  obtain ⟨c, hb, _⟩ := h
  exact blk_lt hb
theorem WtV.congr {w : World} {b n : Nat} {f g : Nat → Value} (h : WtV w b n f) (e : ∀ i, i < n → f i = g i) : WtV w b n g := by
  obtain ⟨c, hb, hc⟩ := h
  exact ⟨c, hb, fun i hi => by rw [hc i hi, e i hi]⟩
theorem WtV.of_block {w w' : World} {b n : Nat} {f : Nat → Value} (h : WtV w b n f) (e : w'.heap[b]? = w.heap[b]?) : WtV w' b n f := by
  obtain ⟨c, hb, hc⟩ := h
  exact ⟨c, e.trans hb, hc⟩
theorem WtV.set {w : World} {b n : Nat} {f : Nat → Value} (h : WtV w b n f) (i : Nat) (v : Value) : WtV (w.setCell ⟨b, i, none⟩ v) b n (fun j => if j = i then v else f j) := by
  obtain ⟨c, hb, hc⟩ := h
  refine ⟨c.setIfInBounds i v, ?_, fun j hj => ?_⟩
  · simp [World.setCell, Array.getElem?_modify, hb]
  · rw [Array.getElem?_setIfInBounds]
    by_cases e : j = i
    · subst e
      have hj' : j < c.size := (Array.getElem?_eq_some_iff.1 (hc j hj)).1
      simp [hj']
    · rw [if_neg (fun h => e h.symm)]
      show c[j]? = some (if j = i then v else f j)
      rw [if_neg e]
      exact hc j hj
theorem WtV.of_row {w : World} {b n : Nat} {f : Nat → Value} (h : w.rowIs b 92 n f) : WtV w b n f := by
  obtain ⟨c, hb, _, hc⟩ := h
  exact ⟨c, hb, hc⟩
theorem WtV.rd {w : World} {b : Nat} {l : RowL} (h : WtV w b (l.length * 2) (Vl.flat l)) (hs : l.length ≤ 4194304) (ht : ∀ i, i < l.length → (l.getD i Vl.z2).2.size ≤ maxLen) : Vl.Rd w (some ⟨b, 0, none⟩) b 0 l := by
  refine ⟨fun _ => rfl, fun i hi => ⟨?_, ?_⟩, hs, ht⟩
  · rw [← Vl.flat0, Nat.zero_add]; exact h.cell (by omega)
  · rw [← Vl.flat1, Nat.zero_add]; exact h.cell (by omega)

/-- Rows of the call's own: in blocks from lo on, below hi, each in a block of its own. -/
structure Own (w : World) (lo hi : Nat) (a : Option Addr) (b : Nat) (Q : List Rm) : Prop where
  rd : Rd w a b 0 Q
  blk : Q.length = 0 ∨ (lo ≤ b ∧ ∃ cs, w.heap[b]? = some (.cells cs 149 (0, 0)))
  each : ∀ r ∈ Q, r.l.length ≠ 0 → r.a = some ⟨r.b, 0, none⟩ ∧ lo ≤ r.b ∧ r.b < hi ∧ WtV w r.b (r.l.length * 2) (Vl.flat r.l)
  diff : Q.Pairwise fun x y => x.l.length ≠ 0 → y.l.length ≠ 0 → x.b ≠ y.b
theorem Own.keep {w w' : World} {lo hi : Nat} {a : Option Addr} {b : Nat} {Q : List Rm} (h : Own w lo hi a b Q) (hk : ∀ x, lo ≤ x → x < w.heap.size → w'.heap[x]? = w.heap[x]?) : Own w' lo hi a b Q := by
  refine ⟨h.rd.keep (h.blk.imp id ?_) ?_, h.blk.imp id ?_, fun r hr h0 => ?_, h.diff⟩
  · rintro ⟨h1, cs, h2⟩
    exact hk b h1 (blk_lt h2)
  · intro r hr
    by_cases h0 : r.l.length = 0
    · exact .inl h0
    · obtain ⟨_, h1, _, h2⟩ := h.each r hr h0
      exact .inr (hk _ h1 h2.lt)
  · rintro ⟨h1, cs, h2⟩
    exact ⟨h1, cs, (hk b h1 (blk_lt h2)).trans h2⟩
  · obtain ⟨e, h1, h3, h2⟩ := h.each r hr h0
    exact ⟨e, h1, h3, h2.of_block (hk _ h1 h2.lt)⟩
theorem Own.below {w w' : World} {lo hi : Nat} {a : Option Addr} {b : Nat} {Q : List Rm} (h : Own w lo hi a b Q) (hb : Below w.heap.size w w') : Own w' lo hi a b Q := h.keep fun x _ hx => hb.block x hx
theorem Own.mono {w : World} {lo hi lo' hi' : Nat} {a : Option Addr} {b : Nat} {Q : List Rm} (h : Own w lo hi a b Q) (h1 : lo' ≤ lo) (h2 : hi ≤ hi') : Own w lo' hi' a b Q :=
  ⟨h.rd, h.blk.imp id fun ⟨q, k⟩ => ⟨Nat.le_trans h1 q, k⟩, fun r hr h0 => by obtain ⟨e, q1, q2, q3⟩ := h.each r hr h0; exact ⟨e, Nat.le_trans h1 q1, Nat.lt_of_lt_of_le q2 h2, q3⟩, h.diff⟩
theorem Own.set {w : World} {lo hi : Nat} {a : Option Addr} {b : Nat} {Q : List Rm} {p : Addr} {u : Value} (h : Own w lo hi a b Q) (hp : p.block < lo) : Own (w.setCell p u) lo hi a b Q :=
  h.keep fun x hx _ => Below.heap_setCell w p u x (by omega)
theorem own_nil (w : World) (lo hi : Nat) (a : Option Addr) (b : Nat) : Own w lo hi a b [] := ⟨rd_nil _ _ _ _, .inl rfl, fun r hr => by simp at hr, List.Pairwise.nil⟩
theorem getD_mem {Q : List Rm} {i : Nat} (hi : i < Q.length) : Q.getD i rm0 ∈ Q := by
  have e : Q.getD i rm0 = Q[i] := by simp [List.getD, hi]
  rw [e]; exact List.getElem_mem hi

theorem info34 : (Tryz.prog.info? 149).map (fun i => (i.zero, i.size, i.bytes)) = some (some (.agg #[.slice none 0 0]), 1, 24) := by kernel_rfl
theorem make34 (n : Nat) (hn : n ≤ 4194304) (w : World) :
    (Instr.makeSlice 67 (.int .i64 n) (.int .i64 n)).run Tryz.prog w = .ok (.slice (some ⟨w.heap.size, 0, none⟩) n n) (w.alloc (.cells (madeCells #[.slice none 0 0] (n * 1)) 149)) := by
  obtain ⟨i, hi, hzz⟩ := Option.map_eq_some_iff.1 info34
  simp only [Prod.mk.injEq] at hzz
  obtain ⟨hz, hs, hb⟩ := hzz
  have hr := run_make (P := Tryz.prog) w 67 149 i _ Tryz.underlying67 hi hz .i64 .i64 n n (by omega) (Int.le_refl _) (by rw [hb]; omega) (by omega)
  simp only [Int.toNat_natCast, hs, Value.cells] at hr
  exact hr
/-- A copy under way. -/
def partR (P : List Rm) : Nat → Value := fun i => if i < P.length then (P.getD i rm0).val else .slice none 0 0
theorem made34 (w : World) (n : Nat) : (w.alloc (.cells (madeCells #[.slice none 0 0] (n * 1)) 149)).rowIs w.heap.size 149 n (partR []) :=
  ⟨_, at_new rfl, by rw [size_madeCells, Nat.mul_one], fun i hi => by
    have h1 : i % 1 = 0 := by omega
    simp [madeCells, hi, partR, Nat.mod_one]⟩
theorem partR_step {w : World} {g n : Nat} {P : List Rm} {r : Rm} (h : w.rowIs g 149 n (partR P)) : (w.setCell ⟨g, P.length, none⟩ r.val).rowIs g 149 n (partR (P ++ [r])) := by
  refine (h.set _ _).congr fun i hi => ?_
  unfold partR
  by_cases e : i = P.length
  · subst e; simp [List.getD]
  · rw [if_neg e]
    by_cases h1 : i < P.length
    · have h2 : i < (P ++ [r]).length := by simp; omega
      rw [if_pos h1, if_pos h2]
      simp [List.getD, h1, List.getElem?_append]
    · have h2 : ¬ i < (P ++ [r]).length := by simp; omega
      rw [if_neg h1, if_neg h2]
theorem partR_at (P : List Rm) : partR P P.length = .slice none 0 0 := by simp [partR]

/-- The rows that are copied so far. -/
structure Copied (w : World) (g : Nat) (P : List Rm) : Prop where
  each : ∀ r ∈ P, r.a = some ⟨r.b, 0, none⟩ ∧ r.o = 0 ∧ g < r.b ∧ Vl.Mine w r.b r.l
  diff : P.Pairwise fun x y => x.b < y.b
theorem Copied.keep {w w' : World} {g : Nat} {P : List Rm} (h : Copied w g P) (hk : ∀ x, g < x → x < w.heap.size → w'.heap[x]? = w.heap[x]?) : Copied w' g P :=
  ⟨fun r hr => by obtain ⟨e, o, h1, h2⟩ := h.each r hr; exact ⟨e, o, h1, ⟨h2.row.of_block (hk _ h1 h2.row.lt), h2.size, h2.str⟩⟩, h.diff⟩
theorem take_said {Q P : List Rm} (h : said P = (said Q).take P.length) (hlt : P.length < Q.length) {r : Rm} (hr : r.l = (Q.getD P.length rm0).l) : said (P ++ [r]) = (said Q).take (P ++ [r]).length := by
  have h2 : P.length < (said Q).length := by rw [said_len]; exact hlt
  have e : said (P ++ [r]) = said P ++ [r.l] := by simp [said]
  rw [e, h, hr, ← said_at hlt]
  have e2 : (P ++ [r]).length = P.length + 1 := by simp
  rw [e2, List.take_add_one, List.getElem?_eq_getElem h2]
  simp [List.getD, h2]

set_option maxHeartbeats 1000000 in
theorem eqT_same (a a' : Option Addr) (b off cap b' off' cap' : Nat) (Q P : List Rm) (w : World) (h : Rd w a b off Q) (h' : Rd w a' b' off' P) (he : said Q = said P) :
    Calls Tryz.prog 133 #[.slice a Q.length cap, .slice a' P.length cap'] w fun e w' => e = .returned (.bool true) ∧ Below w.heap.size w w' := by
  obtain ⟨hh, hc, ho, hs⟩ := h
  obtain ⟨hh', hc', ho', _⟩ := h'
  have hl : P.length = Q.length := by rw [← said_len, ← said_len, he]
  have HE : Hid (∀ i, i < Q.length → (Q.getD i rm0).l = (P.getD i rm0).l) := fun i hi => by rw [← said_at hi, ← said_at (by omega), he]
  rw [hl] at hh' hc' ho' ⊢
  obtain ⟨n, hn⟩ : ∃ n, n = Q.length := ⟨_, rfl⟩
  rw [← hn] at hh hc ho hs hh' hc' ho' HE ⊢
  clear hn hl he
  go_enter Tryz.func133, Tryz.ntmps133
  go_wp2
  go_loopw [5] (fun i wr => ∃ k : Nat, k ≤ n ∧ i = .int .i64 k ∧ Below w.heap.size w wr) (fun i _ => n - (intOf i).toNat)
  case atStart => exact ⟨0, Nat.zero_le _, rfl, Below.refl _ _⟩
  case round =>
    obtain ⟨k, hk, rfl, hbel⟩ := hrel
    by_cases hlt : k < n
    · obtain rfl := hh (by omega)
      obtain rfl := hh' (by omega)
      have hkz : (k : Int) < (n : Int) := by omega
      have c0 := (hbel.cell (World.block_lt_of_cell? _ _ (hc k hlt))).trans (hc k hlt)
      have d0 := (hbel.cell (World.block_lt_of_cell? _ _ (hc' k hlt))).trans (hc' k hlt)
      have o0 := Vl.Rd.below (ho k hlt) hbel
      have o1 := Vl.Rd.below (ho' k hlt) hbel
      have hx := HE.out k hlt
      generalize Q.getD k rm0 = x at c0 o0 hx
      generalize P.getD k rm0 = y at d0 o1 hx
      obtain ⟨xa, xb, xo, xc, xl⟩ := x
      obtain ⟨ya, yb, yo, yc, yl⟩ := y
      simp only [Rm.val] at c0 d0 o0 o1 hx
      subst hx
      have hE := fun W h h' => Vl.eqR_same xa ya xb xo xc yb yo yc xl W h h'
      clear hc hc' hh hh' ho ho' HE
      go_wp2
      go_region_with (go_at_call 153; refine (hE _ (o0.below (by repeat (first | exact Below.refl _ _ | apply Below.drew))) (o1.below (by repeat (first | exact Below.refl _ _ | apply Below.drew)))).mono ?_; rintro e w1 ⟨rfl, hb⟩)
      all_goals go_wp2
      all_goals go_roundw
      all_goals first
        | exact ⟨k + 1, by omega, by go_num, Rw.next (by repeat (first | exact hbel | apply Below.drew)) hb⟩
        | (simp [intOf]; omega)
    · have he : k = n := by omega
      subst he
      go_wp2
      go_ret
      exact ⟨rfl, hbel⟩
theorem eqL_same (ar : Int) (a a' : Option Addr) (b off cap b' off' cap' : Nat) (Q P : List Rm) (w : World) (h : Rd w a b off Q) (h' : Rd w a' b' off' P) (he : said Q = said P) :
    Calls Tryz.prog 101 #[.agg #[.int .i64 ar, .slice a Q.length cap], .agg #[.int .i64 ar, .slice a' P.length cap']] w fun e w' => e = .returned (.bool true) ∧ Below w.heap.size w w' := by
  have B := below_alloc2 w (.cells #[.int .i64 ar, .slice a Q.length cap] 69) (.cells #[.int .i64 ar, .slice a' P.length cap'] 69)
  have h1 := h.below B
  have h2 := h'.below B
  have hE := eqT_same a a' b off cap b' off' cap' Q P _ h1 h2 he
  go_enter Tryz.func101, Tryz.ntmps101
  go_wp2_with (go_at_call 133; refine hE.mono ?_; rintro e w1 ⟨rfl, hb⟩)
  go_ret
  exact ⟨rfl, Rw.next B hb⟩

end Go.Proofs.YtljlgjgfmgilaaaGreat.Rl

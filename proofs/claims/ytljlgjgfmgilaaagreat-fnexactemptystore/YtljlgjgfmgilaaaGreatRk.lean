/-
  Rows and lists of rows that grow by append; copies of rows.
-/
import Derived.Test.YtljlgjgfmgilaaaGreatRf
import Derived.Test.YtljlgjgfmgilaaaGreatHn
import Derived.Maps.AppendAt
namespace Go.Proofs.YtljlgjgfmgilaaaGreat.Rl
set_option maxRecDepth 8000
set_option linter.unusedSimpArgs false
set_option linter.unusedVariables false
open Go Go.RowKit
open Num Word Pl Rp
open Vl (V2 z2)

def flatV (l : RowL) : List Value := l.flatMap fun x => [.int .i64 x.1, .string x.2]
theorem flatV_len (l : RowL) : (flatV l).length = l.length * 2 := by
  induction l with
  | nil => rfl
  | cons x l ih => simp only [flatV, List.flatMap_cons, List.length_append, List.length_cons] at ih ⊢; rw [ih]; simp; omega
theorem flatV_at : ∀ (l : RowL) (j : Nat), j < l.length * 2 → (flatV l)[j]? = some (Vl.flat l j)
  | [], j, h => by simp at h
  | x :: l, j, h => by
    have e : flatV (x :: l) = .int .i64 x.1 :: .string x.2 :: flatV l := by simp [flatV]
    rw [e]
    match j with
    | 0 => simp [Vl.flat, List.getD]
    | 1 => simp [Vl.flat, List.getD]
    | j + 2 =>
      have := flatV_at l j (by simp at h; omega)
      have e1 : (j + 2) % 2 = j % 2 := by omega
      have e2 : (j + 2) / 2 = j / 2 + 1 := by omega
      simp only [List.getElem?_cons_succ, this, Vl.flat, e1, e2]
      simp [List.getD]
theorem info94 : (Tryz.prog.info? 92).map (fun i => (i.zero, i.size, i.bytes)) = some (some (.agg #[.int .i64 0, .string ⟨#[]⟩]), 2, 24) := by kernel_rfl

/-- A row of the call's own, from block lo on. -/
structure NewR (lo : Nat) (w : World) (r : Rm) : Prop where
  ok : r.Ok w
  own : r.l.length ≠ 0 → r.a = some ⟨r.b, 0, none⟩ ∧ lo ≤ r.b ∧ WtV w r.b (r.l.length * 2) (Vl.flat r.l)
theorem NewR.keep {lo : Nat} {w w' : World} {r : Rm} (h : NewR lo w r) (hk : r.l.length ≠ 0 → w'.heap[r.b]? = w.heap[r.b]?) : NewR lo w' r := by
  refine ⟨vrd_keep h.ok ?_, fun h0 => ?_⟩
  · by_cases h0 : r.l.length = 0
    · exact .inl h0
    · exact .inr (hk h0)
  · obtain ⟨h1, h2, h3⟩ := h.own h0
    exact ⟨h1, h2, h3.of_block (hk h0)⟩
theorem NewR.below {lo : Nat} {w w' : World} {r : Rm} (h : NewR lo w r) (hb : Below w.heap.size w w') : NewR lo w' r := h.keep fun h0 => hb.block _ (h.own h0).2.2.lt
theorem NewR.mono {lo lo' : Nat} {w : World} {r : Rm} (h : NewR lo w r) (hl : lo' ≤ lo) : NewR lo' w r := ⟨h.ok, fun h0 => by obtain ⟨h1, h2, h3⟩ := h.own h0; exact ⟨h1, Nat.le_trans hl h2, h3⟩⟩

theorem noneV (w : World) (ty : TypeId) (g n cap c : Nat) (h : n ≤ cap) : (Builtin.append_ #[147, 147] ty #[.slice (some ⟨g, 0, none⟩) n cap, .slice none 0 c]).run Tryz.prog w = .ok (.slice (some ⟨g, 0, none⟩) n cap) w := by
  simp [Builtin.append_, go_sem, h]
/-- A row appended to an empty one. -/
theorem app_row {w : World} (ty : TypeId) {A : Option Addr} {b off c : Nat} {l : RowL} (hr : Vl.Rd w A b off l) :
    ∃ r w', (Builtin.append_ #[147, 147] ty #[.slice (some ⟨w.heap.size, 0, none⟩) 0 0, .slice A l.length c]).run Tryz.prog (w.alloc (.cells #[] 92)) = .ok r.val w' ∧ NewR w.heap.size w' r ∧ r.l = l ∧ Below w.heap.size w w' := by
  have B0 := below_alloc1 w (.cells #[] 92)
  cases A with
  | none =>
    have hl : l = [] := by
      rcases Nat.eq_zero_or_pos l.length with h0 | h0
      · exact List.eq_nil_of_length_eq_zero h0
      · exact absurd (hr.head h0) (by simp)
    subst hl
    exact ⟨⟨some ⟨w.heap.size, 0, none⟩, w.heap.size, 0, 0, []⟩, _, noneV _ ty _ 0 0 c (Nat.le_refl _), ⟨⟨fun _ => rfl, fun i h => by simp at h, by simp, fun i h => by simp at h⟩, fun h => absurd rfl h⟩, rfl, B0⟩
  | some ad =>
    obtain ⟨i, hi, hzz⟩ := Option.map_eq_some_iff.1 info94
    simp only [Prod.mk.injEq] at hzz
    obtain ⟨hz, hs, hby⟩ := hzz
    have hsz := hr.size
    have hr0 := hr.below B0
    have own : (w.alloc (.cells #[] 92)).ownsRow w.heap.size 92 2 (.slice (some ⟨w.heap.size, 0, none⟩) 0 0) 0 [] := World.ownsRow_made (size := 2) (e := 92) w #[] 0 (Nat.le_refl _) (Nat.zero_le _) rfl
    obtain ⟨v', w', hrun, h1, h2, h3, h4⟩ := run_append_own_at (P := Tryz.prog) (w := w.alloc (.cells #[] 92)) w.heap.size 147 ty 92 i (.agg #[.int .i64 0, .string ⟨#[]⟩]) 2 24 Tryz.underlying147 hi hz hs hby rfl (by decide) _ 0 [] own ad l.length c (flatV l) (flatV_len l)
      (by
        intro j u hj
        have hjl : j < l.length * 2 := by rw [← flatV_len]; exact (List.getElem?_eq_some_iff.1 hj).1
        rw [flatV_at l j hjl] at hj
        obtain rfl : ad = ⟨b, off, none⟩ := by simpa using hr.head (by omega)
        obtain ⟨c0, c1⟩ := hr0.cell (j / 2) (by omega)
        rw [add_eq]
        unfold Vl.flat at hj
        split at hj
        · have e : j / 2 * 2 = j := by omega
          rw [e] at c0; rw [← hj]; exact c0
        · have e : off + j / 2 * 2 + 1 = off + j := by omega
          rw [e] at c1; rw [← hj]; exact c1)
      (by intro u hu; simp only [flatV, List.mem_flatMap] at hu; obtain ⟨x, _, hx⟩ := hu; simp at hx; rcases hx with rfl | rfl <;> rfl) (by unfold maxLen; omega) (by omega) (by simp)
    have bel : Below w.heap.size w w' := B0.grown h2 B0.size (fun k hk => by simp [Value.ownBlock] at hk; omega)
    rcases h1.2 with ⟨e, hn⟩ | ⟨g, cap, cur, rfl, hb, hh, hn, _, _, ht⟩
    · have hl : l = [] := List.eq_nil_of_length_eq_zero (by omega)
      subst hl
      subst e
      exact ⟨⟨none, 0, 0, 0, []⟩, w', hrun, ⟨⟨fun h => by simp at h, fun i h => by simp at h, by simp, fun i h => by simp at h⟩, fun h => absurd rfl h⟩, rfl, bel⟩
    · have wt : WtV w' g (l.length * 2) (Vl.flat l) := by
        refine ⟨cur, hh, fun j hj => ?_⟩
        have e : (cur.toList.take ((0 + l.length) * 2))[j]? = (flatV l)[j]? := by rw [ht]; simp
        rw [List.getElem?_take, if_pos (by omega), flatV_at l j hj] at e
        rw [← Array.getElem?_toList]; exact e
      refine ⟨⟨some ⟨g, 0, none⟩, g, 0, cap, l⟩, w', ?_, ⟨wt.rd hsz hr.str, fun _ => ⟨rfl, hb, wt⟩⟩, rfl, bel⟩
      rw [hrun]; simp [Rm.val]

theorem vnil (n c : Nat) (w : World) : (binOp BinOp.eql 147 (.slice none n c) (.slice none 0 0)).run Tryz.prog w = .ok (.bool true) w := by kernel_rfl
theorem vsome (ad : Addr) (n c : Nat) (w : World) : (binOp BinOp.eql 147 (.slice (some ad) n c) (.slice none 0 0)).run Tryz.prog w = .ok (.bool false) w := by kernel_rfl

/-- A row is handed back, of the call's own. -/
def ResR (w : World) (l : RowL) (f : Rm → Value) (e : Ending) (w' : World) : Prop := ∃ r, e = .returned (f r) ∧ NewR w.heap.size w' r ∧ r.l = l ∧ Below w.heap.size w w'
set_option maxHeartbeats 1000000 in
theorem clone_any (a : Option Addr) (b off cap : Nat) (l : RowL) (w : World) (h : Vl.Rd w a b off l) : Calls Tryz.prog 120 #[.slice a l.length cap] w (ResR w l Rm.val) := by
  cases a with
  | none =>
    have hl : l = [] := by
      rcases Nat.eq_zero_or_pos l.length with h0 | h0
      · exact List.eq_nil_of_length_eq_zero h0
      · exact absurd (h.head h0) (by simp)
    subst hl
    have q0 := vnil 0 cap w
    go_enter Tryz.func120, Tryz.ntmps120
    go_wp2
    go_ret
    exact ⟨⟨none, 0, 0, 0, []⟩, rfl, ⟨⟨fun h => by simp at h, fun i h => by simp at h, by simp, fun i h => by simp at h⟩, fun h => absurd rfl h⟩, rfl, Below.refl _ _⟩
  | some ad =>
    have q0 := vsome ad l.length cap w
    obtain ⟨r, w', hrun, hn, hl, hb⟩ := app_row 32 (c := cap) h
    obtain ⟨v, hv⟩ : ∃ v, v = r.val := ⟨_, rfl⟩
    rw [← hv] at hrun
    go_enter Tryz.func120, Tryz.ntmps120
    go_wp2_with (at_builtin; refine Hn.wpList_run rfl (Hn.exec_app (.tmp 5) (.tmp 6) rfl rfl rfl hrun) ?_)
    go_ret
    exact ⟨r, by rw [← hv]; rfl, hn, hl, hb⟩
set_option maxHeartbeats 1000000 in
theorem lrow_any (a : Option Addr) (b off cap : Nat) (l : RowL) (w : World) (h : Vl.Rd w a b off l) : Calls Tryz.prog 119 #[.agg #[.slice a l.length cap]] w (ResR w l (fun r => .agg #[r.val])) := by
  obtain ⟨W1, hW1⟩ : ∃ W1, W1 = (w.alloc (.cells #[.slice a l.length cap] 149)).alloc (.cells #[.slice none 0 0] 149) := ⟨_, rfl⟩
  have B1 : Below w.heap.size w W1 := by subst hW1; exact below_alloc2 _ _ _
  have k0 : W1.heap[w.heap.size]? = some (.cells #[.slice a l.length cap] 149 (0, 0)) := by subst hW1; rw [at_old (by simp), at_new rfl]
  have k1 : W1.heap[w.heap.size + 1]? = some (.cells #[.slice none 0 0] 149 (0, 0)) := by subst hW1; rw [at_new (by simp)]
  obtain ⟨r, w', hrun, hn, hl, hb⟩ := app_row 32 (c := cap) (h.below B1)
  have l1 := blk_lt k1
  replace k1 := (hb.block _ l1).trans k1
  have q0 := one k1
  have f1 := Vl.free k1
  have hs1 : W1.heap.size = w.heap.size + 1 + 1 := by subst hW1; simp
  have HN : Hid (NewR W1.heap.size w' r) := hn
  have HL : Hid (r.l = l) := hl
  have HS : Hid (W1.heap.size = w.heap.size + 1 + 1) := hs1
  obtain ⟨va, vn, vc, hv⟩ : ∃ va vn vc, r.val = .slice va vn vc := ⟨r.a, r.l.length, r.c, rfl⟩
  have HV : Hid (r.val = .slice va vn vc) := hv
  rw [hv, hs1] at hrun
  subst hW1
  clear hn hl hs1 hv
  go_enter Tryz.func119, Tryz.ntmps119
  go_wp2_with (at_builtin; refine Hn.wpList_run rfl (Hn.exec_app (.tmp 3) (.tmp 5) rfl rfl rfl hrun) ?_)
  refine bodyPost_ret (v := .agg #[.slice va vn vc]) (by simp [results, Tryz.results119, go_sem, q0]) rfl ⟨r, by show _ = Ending.returned (.agg #[r.val]); rw [HV.out], ?_, HL.out, ?_⟩
  · refine (HN.out.mono (lo' := w.heap.size) (by rw [HS.out]; omega)).keep fun h0 => Below.heap_setCell _ _ _ _ ?_
    have := (HN.out.own h0).2.1
    rw [HS.out] at this
    simp; omega
  · exact (Rw.next B1 hb).setCell (by simp) _

end Go.Proofs.YtljlgjgfmgilaaaGreat.Rl

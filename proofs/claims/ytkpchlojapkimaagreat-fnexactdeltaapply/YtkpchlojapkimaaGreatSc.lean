/-
  Stores of the call's own; copies; likeness.
-/
import Derived.Test.YtkpchlojapkimaaGreatSb
namespace Go.Proofs.YtkpchlojapkimaaGreat.St
set_option maxRecDepth 8000
set_option linter.unusedSimpArgs false
set_option linter.unusedVariables false
open Go Go.ChangeShapes Go.WideShapes Go.RowKit
open Num Word Pl Rp
open Rl (Rm rm0 said)

def val3 (x : Nm) : Nat → Value := fun k => if k = 0 then .string x.s else if k = 1 then .int .i64 x.ar else .slice x.a x.Q.length x.c
/-- The cells of a row of named relations. -/
def flat3 (T : List Nm) : Nat → Value := fun j => val3 (T.getD (j / 3) nm0) (j % 3)
theorem flat30 (T : List Nm) (i : Nat) : flat3 T (i * 3) = .string (T.getD i nm0).s := by
  have e1 : i * 3 % 3 = 0 := by omega
  have e2 : i * 3 / 3 = i := by omega
  unfold flat3; rw [e1, e2]; rfl
theorem flat31 (T : List Nm) (i : Nat) : flat3 T (i * 3 + 1) = .int .i64 (T.getD i nm0).ar := by
  have e1 : (i * 3 + 1) % 3 = 1 := by omega
  have e2 : (i * 3 + 1) / 3 = i := by omega
  unfold flat3; rw [e1, e2]; rfl
theorem flat32 (T : List Nm) (i : Nat) : flat3 T (i * 3 + 2) = .slice (T.getD i nm0).a (T.getD i nm0).Q.length (T.getD i nm0).c := by
  have e1 : (i * 3 + 2) % 3 = 2 := by omega
  have e2 : (i * 3 + 2) / 3 = i := by omega
  unfold flat3; rw [e1, e2]; rfl
theorem val3_0 (k : Nat) : val3 nm0 k = if k = 0 then .string ⟨#[]⟩ else if k = 1 then .int .i64 0 else .slice none 0 0 := rfl
theorem getD_app {T : List Nm} {x : Nm} (i : Nat) : (T ++ [x]).getD i nm0 = if i = T.length then x else T.getD i nm0 := by
  by_cases e : i = T.length
  · subst e; simp [List.getD]
  · rw [if_neg e]
    by_cases h : i < T.length
    · simp [List.getD, h, List.getElem?_append]
    · have h1 : T.length + 1 ≤ i := by omega
      simp [List.getD, List.getElem?_eq_none (Nat.le_of_not_lt h)]
      rw [List.getElem?_eq_none (by simp; omega)]; rfl
theorem flat3_step {w : World} {g n : Nat} {T : List Nm} {x : Nm} (h : w.rowIs g 69 n (flat3 T)) :
    (((w.setCell ⟨g, T.length * 3, none⟩ (.string x.s)).setCell ⟨g, T.length * 3 + 1, none⟩ (.int .i64 x.ar)).setCell ⟨g, T.length * 3 + 2, none⟩ (.slice x.a x.Q.length x.c)).rowIs g 69 n (flat3 (T ++ [x])) := by
  refine (((h.set _ _).set _ _).set _ _).congr fun j hj => ?_
  unfold flat3
  rw [getD_app]
  by_cases e2 : j = T.length * 3 + 2
  · subst e2
    have a1 : (T.length * 3 + 2) % 3 = 2 := by omega
    have a2 : (T.length * 3 + 2) / 3 = T.length := by omega
    rw [if_pos rfl, a1, a2, if_pos rfl]; rfl
  · rw [if_neg e2]
    by_cases e1 : j = T.length * 3 + 1
    · subst e1
      have a1 : (T.length * 3 + 1) % 3 = 1 := by omega
      have a2 : (T.length * 3 + 1) / 3 = T.length := by omega
      rw [if_pos rfl, a1, a2, if_pos rfl]; rfl
    · rw [if_neg e1]
      by_cases e0 : j = T.length * 3
      · subst e0
        have a1 : (T.length * 3) % 3 = 0 := by omega
        have a2 : (T.length * 3) / 3 = T.length := by omega
        rw [if_pos rfl, a1, a2, if_pos rfl]; rfl
      · rw [if_neg e0, if_neg (by omega)]
theorem flat3_at (T : List Nm) : flat3 T (T.length * 3) = .string ⟨#[]⟩ ∧ flat3 T (T.length * 3 + 1) = .int .i64 0 ∧ flat3 T (T.length * 3 + 2) = .slice none 0 0 := by
  have e : T.getD T.length nm0 = nm0 := by simp [List.getD]
  rw [flat30, flat31, flat32, e]
  exact ⟨rfl, rfl, rfl⟩

theorem infoN : (Tryz.prog.info? 69).map (fun i => (i.zero, i.size, i.bytes)) = some (some (.agg #[.string ⟨#[]⟩, .int .i64 0, .slice none 0 0]), 3, 48) := by kernel_rfl
theorem make3 (n : Nat) (hn : n ≤ 4194304) (w : World) :
    (Instr.makeSlice 23 (.int .i64 n) (.int .i64 n)).run Tryz.prog w = .ok (.slice (some ⟨w.heap.size, 0, none⟩) n n) (w.alloc (.cells (madeCells #[.string ⟨#[]⟩, .int .i64 0, .slice none 0 0] (n * 3)) 69)) := by
  obtain ⟨i, hi, hzz⟩ := Option.map_eq_some_iff.1 infoN
  simp only [Prod.mk.injEq] at hzz
  obtain ⟨hz, hs, hb⟩ := hzz
  have hr := run_make (P := Tryz.prog) w 23 69 i _ Tryz.underlying23 hi hz .i64 .i64 n n (by omega) (Int.le_refl _) (by rw [hb]; omega) (by omega)
  simp only [Int.toNat_natCast, hs, Value.cells] at hr
  exact hr
theorem made3 (w : World) (n : Nat) : (w.alloc (.cells (madeCells #[.string ⟨#[]⟩, .int .i64 0, .slice none 0 0] (n * 3)) 69)).rowIs w.heap.size 69 (n * 3) (flat3 []) :=
  ⟨_, at_new rfl, size_madeCells _ _, fun i hi => by
    have e : i % 3 = 0 ∨ i % 3 = 1 ∨ i % 3 = 2 := by omega
    have e0 : flat3 [] i = val3 nm0 (i % 3) := rfl
    rw [e0, val3_0]
    rcases e with e | e | e <;> simp [madeCells, hi, e]⟩

/-- Named relations of the call's own: in blocks from lo on, below hi, no two rows in one block. -/
structure Own (w : World) (lo hi : Nat) (a : Option Addr) (b : Nat) (T : List Nm) : Prop where
  rd : Rd w a b 0 T
  blk : T.length = 0 ∨ (lo ≤ b ∧ ∃ cs, w.heap[b]? = some (.cells cs 69 (0, 0)))
  each : ∀ x ∈ T, x.o = 0 ∧ Rl.Own w lo hi x.a x.b x.Q
  diff : T.Pairwise fun x y => ∀ r ∈ x.Q, ∀ q ∈ y.Q, r.l.length ≠ 0 → q.l.length ≠ 0 → r.b ≠ q.b
theorem mem_at {T : List Nm} {i : Nat} (hi : i < T.length) : T.getD i nm0 ∈ T := by
  have e : T.getD i nm0 = T[i] := by simp [List.getD, hi]
  rw [e]; exact List.getElem_mem hi
theorem Own.keep {w w' : World} {lo hi : Nat} {a : Option Addr} {b : Nat} {T : List Nm} (h : Own w lo hi a b T) (hk : ∀ x, lo ≤ x → x < w.heap.size → w'.heap[x]? = w.heap[x]?) : Own w' lo hi a b T := by
  have he : ∀ x ∈ T, x.o = 0 ∧ Rl.Own w' lo hi x.a x.b x.Q := fun x hx => ⟨(h.each x hx).1, (h.each x hx).2.keep hk⟩
  refine ⟨⟨h.rd.head, fun i hi => (h.rd.cell i hi).keep ?_, fun i hi => ?_, h.rd.size, h.rd.str⟩, h.blk.imp id ?_, he, h.diff⟩
  · rcases h.blk with h0 | ⟨h1, cs, h2⟩
    · omega
    · exact hk b h1 (blk_lt h2)
  · obtain ⟨e1, e2⟩ := he _ (mem_at hi)
    unfold Nm.Ok
    rw [e1]; exact e2.rd
  · rintro ⟨h1, cs, h2⟩
    exact ⟨h1, cs, (hk b h1 (blk_lt h2)).trans h2⟩
theorem Own.below {w w' : World} {lo hi : Nat} {a : Option Addr} {b : Nat} {T : List Nm} (h : Own w lo hi a b T) (hb : Below w.heap.size w w') : Own w' lo hi a b T := h.keep fun x _ hx => hb.block x hx
theorem Own.mono {w : World} {lo hi lo' hi' : Nat} {a : Option Addr} {b : Nat} {T : List Nm} (h : Own w lo hi a b T) (h1 : lo' ≤ lo) (h2 : hi ≤ hi') : Own w lo' hi' a b T :=
  ⟨h.rd, h.blk.imp id fun ⟨q, k⟩ => ⟨Nat.le_trans h1 q, k⟩, fun x hx => ⟨(h.each x hx).1, (h.each x hx).2.mono h1 h2⟩, h.diff⟩
theorem Own.set {w : World} {lo hi : Nat} {a : Option Addr} {b : Nat} {T : List Nm} {p : Addr} {u : Value} (h : Own w lo hi a b T) (hp : p.block < lo) : Own (w.setCell p u) lo hi a b T :=
  h.keep fun x hx _ => Below.heap_setCell w p u x (by omega)

set_option maxHeartbeats 1000000 in
theorem toN_any (s : ByteArray) (ar : Int) (a : Option Addr) (b off cap : Nat) (Q : List Rm) (w : World) (h : Rl.Rd w a b off Q) :
    Calls Tryz.prog 114 #[.agg #[.string s, .int .i64 ar, .slice a Q.length cap]] w fun e w' => ∃ g P, e = .returned (.agg #[.string s, .int .i64 ar, .slice (some ⟨g, 0, none⟩) P.length P.length]) ∧ Below w.heap.size w w' ∧ Rl.Own w' (w.heap.size + 1) w'.heap.size (some ⟨g, 0, none⟩) g P ∧ said P = said Q := by
  obtain ⟨W1, hW1⟩ : ∃ W1, W1 = ((w.alloc (.cells #[.string s, .int .i64 ar, .slice a Q.length cap] 157)).alloc (.cells #[.string ⟨#[]⟩, .int .i64 0, .slice none 0 0] 69)).alloc (.cells #[.string s, .int .i64 0, .slice none 0 0] 69) := ⟨_, rfl⟩
  have B1 : Below w.heap.size w W1 := by subst hW1; exact Rw.next (Rw.next (below_alloc1 _ _) (below_alloc1 _ _)) (below_alloc1 _ _)
  have k1 : W1.heap[w.heap.size + 1]? = some (.cells #[.string ⟨#[]⟩, .int .i64 0, .slice none 0 0] 69 (0, 0)) := by subst hW1; rw [at_old (by simp), at_new (by simp)]
  have k2 : W1.heap[w.heap.size + 1 + 1]? = some (.cells #[.string s, .int .i64 0, .slice none 0 0] 69 (0, 0)) := by subst hW1; exact at_new (by simp)
  have r1 := h.below B1
  have s1 := blk_lt k2
  go_enter Tryz.func114, Tryz.ntmps114
  go_wp2_with (go_at_call 146; rw [← hW1]; clear hW1; refine (Rl.toL_any _ _ _ _ _ _ _ r1).mono ?_; rintro e wa ⟨g, P, rfl, ba, hm, hsd⟩; replace k1 := (ba.block _ (blk_lt k1)).trans k1; replace k2 := (ba.block _ (blk_lt k2)).trans k2; obtain ⟨p0, p1, p2⟩ := three k1; obtain ⟨q0, q1, q2⟩ := three k2; have f1 := Vl.free k1; have f2 := Vl.free k2; have HD : Hid (said P = said Q) := hsd; clear hsd)
  refine bodyPost_ret (v := .agg #[.string s, .int .i64 ar, .slice (some ⟨g, 0, none⟩) P.length P.length]) (by simp [results, Tryz.results114, go_sem, p0, p1, p2]) rfl ⟨g, P, rfl, ?_, ?_, HD.out⟩
  · have B2 := Rw.next B1 ba
    repeat (first | with_reducible exact B2 | refine Vl.bset ?_ (by simp <;> omega))
  · refine Rl.Own.mono (lo := W1.heap.size) (hi := wa.heap.size) ?_ (by omega) (by simp)
    repeat (first | with_reducible exact hm | refine Rl.Own.set ?_ (by simp; omega))

/-- The named relations that are copied so far. -/
structure Copied (w : World) (g : Nat) (P : List Nm) : Prop where
  each : ∀ x ∈ P, x.o = 0 ∧ (∃ lo hi, g < lo ∧ hi ≤ w.heap.size ∧ Rl.Own w lo hi x.a x.b x.Q) ∧ x.s.size ≤ maxLen
  diff : P.Pairwise fun x y => ∀ r ∈ x.Q, ∀ q ∈ y.Q, r.l.length ≠ 0 → q.l.length ≠ 0 → r.b ≠ q.b
theorem Copied.keep {w w' : World} {g : Nat} {P : List Nm} (h : Copied w g P) (hk : ∀ x, g < x → x < w.heap.size → w'.heap[x]? = w.heap[x]?) (hs : w.heap.size ≤ w'.heap.size) : Copied w' g P :=
  ⟨fun x hx => by obtain ⟨e, ⟨lo, hi, h1, h2, h3⟩, h4⟩ := h.each x hx; exact ⟨e, ⟨lo, hi, h1, by omega, h3.keep fun y hy hy' => hk y (by omega) hy'⟩, h4⟩, h.diff⟩
theorem take_told {T P : List Nm} (h : told P = (told T).take P.length) (hlt : P.length < T.length) {x : Nm} (hx : x.l = (T.getD P.length nm0).l) : told (P ++ [x]) = (told T).take (P ++ [x]).length := by
  have h2 : P.length < (told T).length := by rw [told_len]; exact hlt
  rw [told_app, h, hx, ← told_at hlt]
  have e2 : (P ++ [x]).length = P.length + 1 := by simp
  rw [e2, List.take_add_one, List.getElem?_eq_getElem h2]
  simp [List.getD, h2]

set_option maxHeartbeats 1000000 in
theorem toNs_any (a : Option Addr) (b off cap : Nat) (T : List Nm) (w : World) (h : Rd w a b off T) :
    Calls Tryz.prog 61 #[.slice a T.length cap] w fun e w' => e = .returned (.slice (some ⟨w.heap.size, 0, none⟩) T.length T.length) ∧ Below w.heap.size w w' ∧ ∃ P, Own w' w.heap.size w'.heap.size (some ⟨w.heap.size, 0, none⟩) w.heap.size P ∧ told P = told T ∧ P.length = T.length := by
  obtain ⟨hh, hc, ho, hs, hst⟩ := h
  obtain ⟨n, hn⟩ : ∃ n, n = T.length := ⟨_, rfl⟩
  have hmk := make3 n (by omega)
  rw [← hn] at hh hc ho hs hst ⊢
  have HN : Hid (n = T.length) := hn
  clear hn
  go_enter Tryz.func61, Tryz.ntmps61
  go_wp2
  clear hmk
  go_loopw [4] (fun i wr => ∃ P : List Nm, P.length ≤ n ∧ i = .int .i64 (P.length : Int) ∧ Below w.heap.size w wr ∧ wr.rowIs w.heap.size 69 (n * 3) (flat3 P) ∧ Copied wr w.heap.size P ∧ told P = (told T).take P.length) (fun i _ => n - (intOf i).toNat)
  case atStart => exact ⟨[], Nat.zero_le _, rfl, (Below.refl _ _).alloc (Nat.le_refl _) _, made3 w n, ⟨fun r hr => by simp at hr, List.Pairwise.nil⟩, rfl⟩
  case round =>
    obtain ⟨P, hk, rfl, hbel, hrow, hcp, hsd⟩ := hrel
    have HS : Hid (told P = (told T).take P.length) := hsd
    clear hsd
    by_cases hlt : P.length < n
    · obtain rfl := hh (by omega)
      have hkz : (P.length : Int) < (n : Int) := by omega
      obtain ⟨c0, c1, c2⟩ := At3.of (hc P.length hlt) hbel (hc P.length hlt).lt
      have o1 := Rl.Rd.below (ho P.length hlt) hbel
      have hst1 := hst P.length hlt
      have hlw := hrow.lt
      have HT : Hid (∀ r : Nm, r.l = (T.getD P.length nm0).l → told (P ++ [r]) = (told T).take (P ++ [r]).length) := fun r hr => take_told HS.out (by have := HN.out; omega) hr
      clear hc ho hh HS hst
      generalize T.getD P.length nm0 = x at c0 c1 c2 o1 HT hst1
      obtain ⟨xs, xr, xa, xb, xo, xc, xQ⟩ := x
      simp only [Nm.l] at c0 c1 c2 o1 HT hst1
      obtain ⟨k, hk1⟩ : ∃ k, k = P.length := ⟨_, rfl⟩
      have HK : Hid (k = P.length) := hk1
      have hz := flat3_at P
      rw [← hk1] at c0 c1 c2 hkz hlt hk hz ⊢
      clear hk1
      obtain ⟨z0, z1, z2⟩ := hz
      have cpl : ∀ x ∈ P, ∀ r ∈ x.Q, r.l.length ≠ 0 → r.b < wr.heap.size := fun x hx r hr h0 => by
        obtain ⟨_, ⟨lo, hi, _, h2, h3⟩, _⟩ := hcp.each x hx
        exact (h3.each r hr h0).2.2.2.lt
      go_wp2_with (go_at_call 114; refine (toN_any _ _ _ _ _ _ _ _ o1).mono ?_; rintro e w1 ⟨g, X, rfl, hb, hm, hX⟩; have HX : Hid (said X = said xQ) := hX; clear hX; replace hrow := hrow.of_block (hb.block _ hlw); replace hbel := Rw.next hbel hb; have hb1 := hb.size; replace hcp := hcp.keep (fun x _ hx => hb.block x hx) hb1; clear hb; have g0 := (hrow.cell (i := k * 3) (by omega)).trans (congrArg some z0); have g1 := (hrow.cell (i := k * 3 + 1) (by omega)).trans (congrArg some z1); have g2 := (hrow.cell (i := k * 3 + 2) (by omega)).trans (congrArg some z2); have f0 := hrow.frozen (k * 3); have f1 := hrow.frozen (k * 3 + 1); have f2 := hrow.frozen (k * 3 + 2))
      go_roundw
      case rel =>
        have hk2 := HK.out
        subst hk2
        refine ⟨P ++ [⟨xs, xr, some ⟨g, 0, none⟩, g, 0, X.length, X⟩], by simp; omega, by simp only [List.length_append, List.length_singleton]; go_num, ((hbel.setCell (by simp) _).setCell (by simp) _).setCell (by simp) _, ?_, ?_, HT.out _ (by simp only [Prod.mk.injEq, true_and]; exact HX.out)⟩
        · exact flat3_step (x := ⟨xs, xr, some ⟨g, 0, none⟩, g, 0, X.length, X⟩) hrow
        · have hk3 : ∀ (u0 u1 u2 : Value) (p0 p1 p2 : Nat) x, w.heap.size < x → (((w1.setCell ⟨w.heap.size, p0, none⟩ u0).setCell ⟨w.heap.size, p1, none⟩ u1).setCell ⟨w.heap.size, p2, none⟩ u2).heap[x]? = w1.heap[x]? := fun u0 u1 u2 p0 p1 p2 x hx => by
            rw [Below.heap_setCell _ _ _ _ (by simp; omega), Below.heap_setCell _ _ _ _ (by simp; omega), Below.heap_setCell _ _ _ _ (by simp; omega)]
          refine ⟨fun x hx => ?_, ?_⟩
          · rcases List.mem_append.1 hx with hx | hx
            · exact (hcp.keep (fun x hx _ => hk3 _ _ _ _ _ _ x hx) (by simp)).each x hx
            · obtain rfl := List.mem_singleton.1 hx
              exact ⟨rfl, ⟨wr.heap.size + 1, w1.heap.size, by omega, by simp, hm.keep fun y hy _ => hk3 _ _ _ _ _ _ y (by omega)⟩, hst1⟩
          · rw [List.pairwise_append]
            refine ⟨hcp.diff, List.pairwise_singleton _ _, fun x hx y hy r hr q hq h0 h0' => ?_⟩
            obtain rfl := List.mem_singleton.1 hy
            have u1 := cpl x hx r hr h0
            have u2 := (hm.each q hq h0').2.1
            omega
      case measure => have := HK.out; simp [intOf]; omega
    · have he : P.length = n := by omega
      have hkz : ¬ (P.length : Int) < (n : Int) := by omega
      go_wp2
      go_ret
      have hs1 : told P = told T := by rw [HS.out, he, HN.out, ← told_len T, List.take_length]
      refine ⟨rfl, hbel, P, ⟨⟨fun _ => rfl, fun i hi => ⟨?_, ?_, ?_⟩, fun i hi => ?_, by omega, fun i hi => (hcp.each _ (mem_at hi)).2.2⟩, .inr ⟨Nat.le_refl _, ?_⟩, fun x hx => ?_, hcp.diff⟩, hs1, he⟩
      · rw [← flat30, Nat.zero_add]; exact hrow.cell (by omega)
      · rw [← flat31, Nat.zero_add]; exact hrow.cell (by omega)
      · rw [← flat32, Nat.zero_add]; exact hrow.cell (by omega)
      · obtain ⟨e1, ⟨lo, hi', _, _, e4⟩, _⟩ := hcp.each _ (mem_at hi)
        unfold Nm.Ok
        rw [e1]; exact e4.rd
      · obtain ⟨cs, h1, _⟩ := hrow
        exact ⟨cs, h1⟩
      · obtain ⟨e1, ⟨lo, hi', e2, e3, e4⟩, _⟩ := hcp.each x hx
        exact ⟨e1, e4.mono (by omega) e3⟩

set_option maxHeartbeats 1000000 in
theorem toSt_any (a : Option Addr) (b off cap : Nat) (T : List Nm) (w : World) (h : Rd w a b off T) :
    Calls Tryz.prog 20 #[.agg #[.slice a T.length cap]] w fun e w' => ∃ g P, e = .returned (.agg #[.slice (some ⟨g, 0, none⟩) P.length P.length]) ∧ Below w.heap.size w w' ∧ Own w' w.heap.size w'.heap.size (some ⟨g, 0, none⟩) g P ∧ told P = told T := by
  obtain ⟨W1, hW1⟩ : ∃ W1, W1 = ((w.alloc (.cells #[.slice a T.length cap] 44)).alloc (.cells #[.slice none 0 0] 25)).alloc (.cells #[.slice none 0 0] 25) := ⟨_, rfl⟩
  have B1 : Below w.heap.size w W1 := by subst hW1; exact Rw.next (Rw.next (below_alloc1 _ _) (below_alloc1 _ _)) (below_alloc1 _ _)
  have k1 : W1.heap[w.heap.size + 1]? = some (.cells #[.slice none 0 0] 25 (0, 0)) := by subst hW1; rw [at_old (by simp), at_new (by simp)]
  have k2 : W1.heap[w.heap.size + 1 + 1]? = some (.cells #[.slice none 0 0] 25 (0, 0)) := by subst hW1; exact at_new (by simp)
  have r1 := h.below B1
  have s1 := blk_lt k2
  go_enter Tryz.func20, Tryz.ntmps20
  go_wp2_with (go_at_call 61; rw [← hW1]; clear hW1; refine (toNs_any _ _ _ _ _ _ r1).mono ?_; rintro e wa ⟨rfl, ba, P, hm, hsd, hpl⟩; replace k1 := (ba.block _ (blk_lt k1)).trans k1; replace k2 := (ba.block _ (blk_lt k2)).trans k2; have p0 := one k1; have q0 := one k2; have f1 := Vl.free k1; have f2 := Vl.free k2; have HP : Hid (P.length = T.length) := hpl; have HD : Hid (told P = told T) := hsd; clear hpl hsd)
  refine bodyPost_ret (v := .agg #[.slice (some ⟨W1.heap.size, 0, none⟩) T.length T.length]) (by simp [results, Tryz.results20, go_sem, p0]) rfl ⟨W1.heap.size, P, by rw [HP.out], ?_, ?_, HD.out⟩
  · have B2 := Rw.next B1 ba
    repeat (first | with_reducible exact B2 | refine Vl.bset ?_ (by simp <;> omega))
  · refine Own.mono (lo := W1.heap.size) (hi := wa.heap.size) ?_ (by omega) (by simp)
    repeat (first | with_reducible exact hm | refine Own.set ?_ (by simp; omega))

end Go.Proofs.YtkpchlojapkimaaGreat.St

/-
  Deltas of the call's own; copies.
-/
import Derived.Test.YtkpchlojapkimaaGreatEb
namespace Go.Proofs.YtkpchlojapkimaaGreat.Ch
set_option maxRecDepth 8000
set_option linter.unusedSimpArgs false
set_option linter.unusedVariables false
open Go Go.ChangeShapes Go.WideShapes Go.RowKit
open Num Word Pl Rp
open Rl (Rm rm0 said)

def val5 (x : Cm) : Nat → Value := fun k => if k = 0 then .string x.s else if k = 1 then .int .i64 x.p.ar else if k = 2 then .slice x.p.a x.p.Q.length x.p.c else if k = 3 then .int .i64 x.m.ar else .slice x.m.a x.m.Q.length x.m.c
/-- The cells of a row of changes. -/
def flat5 (T : List Cm) : Nat → Value := fun j => val5 (T.getD (j / 5) cm0) (j % 5)
theorem flat50 (T : List Cm) (i : Nat) : flat5 T (i * 5) = .string (T.getD i cm0).s := by
  have e1 : i * 5 % 5 = 0 := by omega
  have e2 : i * 5 / 5 = i := by omega
  unfold flat5; rw [e1, e2]; rfl
theorem flat51 (T : List Cm) (i : Nat) : flat5 T (i * 5 + 1) = .int .i64 (T.getD i cm0).p.ar := by
  have e1 : (i * 5 + 1) % 5 = 1 := by omega
  have e2 : (i * 5 + 1) / 5 = i := by omega
  unfold flat5; rw [e1, e2]; rfl
theorem flat52 (T : List Cm) (i : Nat) : flat5 T (i * 5 + 2) = .slice (T.getD i cm0).p.a (T.getD i cm0).p.Q.length (T.getD i cm0).p.c := by
  have e1 : (i * 5 + 2) % 5 = 2 := by omega
  have e2 : (i * 5 + 2) / 5 = i := by omega
  unfold flat5; rw [e1, e2]; rfl
theorem flat53 (T : List Cm) (i : Nat) : flat5 T (i * 5 + 3) = .int .i64 (T.getD i cm0).m.ar := by
  have e1 : (i * 5 + 3) % 5 = 3 := by omega
  have e2 : (i * 5 + 3) / 5 = i := by omega
  unfold flat5; rw [e1, e2]; rfl
theorem flat54 (T : List Cm) (i : Nat) : flat5 T (i * 5 + 4) = .slice (T.getD i cm0).m.a (T.getD i cm0).m.Q.length (T.getD i cm0).m.c := by
  have e1 : (i * 5 + 4) % 5 = 4 := by omega
  have e2 : (i * 5 + 4) / 5 = i := by omega
  unfold flat5; rw [e1, e2]; rfl
theorem val5_0 (k : Nat) : val5 cm0 k = if k = 0 then .string ⟨#[]⟩ else if k = 1 then .int .i64 0 else if k = 2 then .slice none 0 0 else if k = 3 then .int .i64 0 else .slice none 0 0 := rfl
theorem getD_app {T : List Cm} {x : Cm} (i : Nat) : (T ++ [x]).getD i cm0 = if i = T.length then x else T.getD i cm0 := by
  by_cases e : i = T.length
  · subst e; simp [List.getD]
  · rw [if_neg e]
    by_cases h : i < T.length
    · simp [List.getD, h, List.getElem?_append]
    · have h1 : T.length + 1 ≤ i := by omega
      simp [List.getD, List.getElem?_eq_none (Nat.le_of_not_lt h)]
      rw [List.getElem?_eq_none (by simp; omega)]; rfl
theorem flat5_step {w : World} {g n : Nat} {T : List Cm} {x : Cm} (h : w.rowIs g 71 n (flat5 T)) :
    (((((w.setCell ⟨g, T.length * 5, none⟩ (.string x.s)).setCell ⟨g, T.length * 5 + 1, none⟩ (.int .i64 x.p.ar)).setCell ⟨g, T.length * 5 + 2, none⟩ (.slice x.p.a x.p.Q.length x.p.c)).setCell ⟨g, T.length * 5 + 3, none⟩ (.int .i64 x.m.ar)).setCell ⟨g, T.length * 5 + 4, none⟩ (.slice x.m.a x.m.Q.length x.m.c)).rowIs g 71 n (flat5 (T ++ [x])) := by
  refine (((((h.set _ _).set _ _).set _ _).set _ _).set _ _).congr fun j hj => ?_
  unfold flat5
  rw [getD_app]
  have key : ∀ k, k < 5 → j = T.length * 5 + k → (if j / 5 = T.length then x else T.getD (j / 5) cm0) = x ∧ j % 5 = k := fun k hk e => by
    have a2 : j / 5 = T.length := by omega
    rw [if_pos a2]; exact ⟨rfl, by omega⟩
  by_cases e4 : j = T.length * 5 + 4
  · obtain ⟨a1, a2⟩ := key 4 (by omega) e4
    rw [a1, a2, if_pos e4]; rfl
  · rw [if_neg e4]
    by_cases e3 : j = T.length * 5 + 3
    · obtain ⟨a1, a2⟩ := key 3 (by omega) e3
      rw [a1, a2, if_pos e3]; rfl
    · rw [if_neg e3]
      by_cases e2 : j = T.length * 5 + 2
      · obtain ⟨a1, a2⟩ := key 2 (by omega) e2
        rw [a1, a2, if_pos e2]; rfl
      · rw [if_neg e2]
        by_cases e1 : j = T.length * 5 + 1
        · obtain ⟨a1, a2⟩ := key 1 (by omega) e1
          rw [a1, a2, if_pos e1]; rfl
        · rw [if_neg e1]
          by_cases e0 : j = T.length * 5
          · obtain ⟨a1, a2⟩ := key 0 (by omega) (by omega)
            rw [a1, a2, if_pos e0]; rfl
          · rw [if_neg e0, if_neg (by omega)]
theorem flat5_at (T : List Cm) : flat5 T (T.length * 5) = .string ⟨#[]⟩ ∧ flat5 T (T.length * 5 + 1) = .int .i64 0 ∧ flat5 T (T.length * 5 + 2) = .slice none 0 0 ∧ flat5 T (T.length * 5 + 3) = .int .i64 0 ∧ flat5 T (T.length * 5 + 4) = .slice none 0 0 := by
  have e : T.getD T.length cm0 = cm0 := by simp [List.getD]
  rw [flat50, flat51, flat52, flat53, flat54, e]
  exact ⟨rfl, rfl, rfl, rfl, rfl⟩

theorem infoC : (Tryz.prog.info? 71).map (fun i => (i.zero, i.size, i.bytes)) = some (some (.agg #[.string ⟨#[]⟩, .int .i64 0, .slice none 0 0, .int .i64 0, .slice none 0 0]), 5, 80) := by kernel_rfl
theorem make5 (n : Nat) (hn : n ≤ 4194304) (w : World) :
    (Instr.makeSlice 28 (.int .i64 n) (.int .i64 n)).run Tryz.prog w = .ok (.slice (some ⟨w.heap.size, 0, none⟩) n n) (w.alloc (.cells (madeCells #[.string ⟨#[]⟩, .int .i64 0, .slice none 0 0, .int .i64 0, .slice none 0 0] (n * 5)) 71)) := by
  obtain ⟨i, hi, hzz⟩ := Option.map_eq_some_iff.1 infoC
  simp only [Prod.mk.injEq] at hzz
  obtain ⟨hz, hs, hb⟩ := hzz
  have hr := run_make (P := Tryz.prog) w 28 71 i _ Tryz.underlying28 hi hz .i64 .i64 n n (by omega) (Int.le_refl _) (by rw [hb]; omega) (by omega)
  simp only [Int.toNat_natCast, hs, Value.cells] at hr
  exact hr
theorem made5 (w : World) (n : Nat) : (w.alloc (.cells (madeCells #[.string ⟨#[]⟩, .int .i64 0, .slice none 0 0, .int .i64 0, .slice none 0 0] (n * 5)) 71)).rowIs w.heap.size 71 (n * 5) (flat5 []) :=
  ⟨_, at_new rfl, size_madeCells _ _, fun i hi => by
    have e : i % 5 = 0 ∨ i % 5 = 1 ∨ i % 5 = 2 ∨ i % 5 = 3 ∨ i % 5 = 4 := by omega
    have e0 : flat5 [] i = val5 cm0 (i % 5) := rfl
    rw [e0, val5_0]
    rcases e with e | e | e | e | e <;> simp [madeCells, hi, e]⟩

/-- The relations of changes, one behind the other. -/
def rels (T : List Cm) : List Re := T.flatMap fun x => [x.p, x.m]
theorem mem_rels {T : List Cm} {x : Cm} (h : x ∈ T) : x.p ∈ rels T ∧ x.m ∈ rels T :=
  ⟨List.mem_flatMap.2 ⟨x, h, by simp⟩, List.mem_flatMap.2 ⟨x, h, by simp⟩⟩
theorem rels_app (T : List Cm) (x : Cm) : rels (T ++ [x]) = rels T ++ [x.p, x.m] := by simp [rels]
/-- No row of the one lies where a row of the other does. -/
def Far (x y : Re) : Prop := ∀ r ∈ x.Q, ∀ q ∈ y.Q, r.l.length ≠ 0 → q.l.length ≠ 0 → r.b ≠ q.b
/-- Changes of the call's own: in blocks from lo on, below hi, no two rows in one block. -/
structure Own (w : World) (lo hi : Nat) (a : Option Addr) (b : Nat) (T : List Cm) : Prop where
  rd : Rd w a b 0 T
  blk : T.length = 0 ∨ (lo ≤ b ∧ ∃ cs, w.heap[b]? = some (.cells cs 71 (0, 0)))
  each : ∀ x ∈ rels T, x.o = 0 ∧ Rl.Own w lo hi x.a x.b x.Q
  diff : (rels T).Pairwise Far
theorem mem_at {T : List Cm} {i : Nat} (hi : i < T.length) : T.getD i cm0 ∈ T := by
  have e : T.getD i cm0 = T[i] := by simp [List.getD, hi]
  rw [e]; exact List.getElem_mem hi
theorem Own.keep {w w' : World} {lo hi : Nat} {a : Option Addr} {b : Nat} {T : List Cm} (h : Own w lo hi a b T) (hk : ∀ x, lo ≤ x → x < w.heap.size → w'.heap[x]? = w.heap[x]?) : Own w' lo hi a b T := by
  have he : ∀ x ∈ rels T, x.o = 0 ∧ Rl.Own w' lo hi x.a x.b x.Q := fun x hx => ⟨(h.each x hx).1, (h.each x hx).2.keep hk⟩
  refine ⟨⟨h.rd.head, fun i hi => (h.rd.cell i hi).keep ?_, fun i hi => ⟨?_, ?_⟩, h.rd.size, h.rd.str⟩, h.blk.imp id ?_, he, h.diff⟩
  · rcases h.blk with h0 | ⟨h1, cs, h2⟩
    · omega
    · exact hk b h1 (blk_lt h2)
  · obtain ⟨e1, e2⟩ := he _ (mem_rels (mem_at hi)).1
    rw [e1]; exact e2.rd
  · obtain ⟨e1, e2⟩ := he _ (mem_rels (mem_at hi)).2
    rw [e1]; exact e2.rd
  · rintro ⟨h1, cs, h2⟩
    exact ⟨h1, cs, (hk b h1 (blk_lt h2)).trans h2⟩
theorem Own.below {w w' : World} {lo hi : Nat} {a : Option Addr} {b : Nat} {T : List Cm} (h : Own w lo hi a b T) (hb : Below w.heap.size w w') : Own w' lo hi a b T := h.keep fun x _ hx => hb.block x hx
theorem Own.mono {w : World} {lo hi lo' hi' : Nat} {a : Option Addr} {b : Nat} {T : List Cm} (h : Own w lo hi a b T) (h1 : lo' ≤ lo) (h2 : hi ≤ hi') : Own w lo' hi' a b T :=
  ⟨h.rd, h.blk.imp id fun ⟨q, k⟩ => ⟨Nat.le_trans h1 q, k⟩, fun x hx => ⟨(h.each x hx).1, (h.each x hx).2.mono h1 h2⟩, h.diff⟩
theorem Own.set {w : World} {lo hi : Nat} {a : Option Addr} {b : Nat} {T : List Cm} {p : Addr} {u : Value} (h : Own w lo hi a b T) (hp : p.block < lo) : Own (w.setCell p u) lo hi a b T :=
  h.keep fun x hx _ => Below.heap_setCell w p u x (by omega)

theorem five_set1 {w : World} {g : Nat} {u v x y z v' : Value} {t : TypeId} (h : w.heap[g]? = some (.cells #[u, v, x, y, z] t (0, 0))) : (w.setCell ⟨g, 1, none⟩ v').heap[g]? = some (.cells #[u, v', x, y, z] t (0, 0)) := by
  simp [World.setCell, Array.getElem?_modify, h]
theorem five_set2 {w : World} {g : Nat} {u v x y z v' : Value} {t : TypeId} (h : w.heap[g]? = some (.cells #[u, v, x, y, z] t (0, 0))) : (w.setCell ⟨g, 2, none⟩ v').heap[g]? = some (.cells #[u, v, v', y, z] t (0, 0)) := by
  simp [World.setCell, Array.getElem?_modify, h]
theorem five_set3 {w : World} {g : Nat} {u v x y z v' : Value} {t : TypeId} (h : w.heap[g]? = some (.cells #[u, v, x, y, z] t (0, 0))) : (w.setCell ⟨g, 3, none⟩ v').heap[g]? = some (.cells #[u, v, x, v', z] t (0, 0)) := by
  simp [World.setCell, Array.getElem?_modify, h]
theorem five_set4 {w : World} {g : Nat} {u v x y z v' : Value} {t : TypeId} (h : w.heap[g]? = some (.cells #[u, v, x, y, z] t (0, 0))) : (w.setCell ⟨g, 4, none⟩ v').heap[g]? = some (.cells #[u, v, x, y, v'] t (0, 0)) := by
  simp [World.setCell, Array.getElem?_modify, h]
set_option maxHeartbeats 1000000 in
theorem toC_any (s : ByteArray) (ar br : Int) (a d : Option Addr) (b off cap b' off' cap' : Nat) (Q U : List Rm) (w : World) (h : Rl.Rd w a b off Q) (h' : Rl.Rd w d b' off' U) :
    Calls Tryz.prog 115 #[.agg #[.string s, .int .i64 ar, .slice a Q.length cap, .int .i64 br, .slice d U.length cap']] w fun e w' => ∃ g P g' P', e = .returned (.agg #[.string s, .int .i64 ar, .slice (some ⟨g, 0, none⟩) P.length P.length, .int .i64 br, .slice (some ⟨g', 0, none⟩) P'.length P'.length]) ∧ Below w.heap.size w w' ∧ Rl.Own w' (w.heap.size + 1) w'.heap.size (some ⟨g, 0, none⟩) g P ∧ Rl.Own w' (w.heap.size + 1) w'.heap.size (some ⟨g', 0, none⟩) g' P' ∧ said P = said Q ∧ said P' = said U ∧ ∀ r ∈ P, ∀ q ∈ P', r.l.length ≠ 0 → q.l.length ≠ 0 → r.b ≠ q.b := by
  obtain ⟨W1, hW1⟩ : ∃ W1, W1 = ((w.alloc (.cells #[.string s, .int .i64 ar, .slice a Q.length cap, .int .i64 br, .slice d U.length cap'] 160)).alloc (.cells #[.string ⟨#[]⟩, .int .i64 0, .slice none 0 0, .int .i64 0, .slice none 0 0] 71)).alloc (.cells #[.string s, .int .i64 0, .slice none 0 0, .int .i64 0, .slice none 0 0] 71) := ⟨_, rfl⟩
  have B1 : Below w.heap.size w W1 := by subst hW1; exact Rw.next (Rw.next (below_alloc1 _ _) (below_alloc1 _ _)) (below_alloc1 _ _)
  have k0 : W1.heap[w.heap.size]? = some (.cells #[.string s, .int .i64 ar, .slice a Q.length cap, .int .i64 br, .slice d U.length cap'] 160 (0, 0)) := by subst hW1; rw [at_old (by simp; omega), at_old (by simp), at_new rfl]
  have k1 : W1.heap[w.heap.size + 1]? = some (.cells #[.string ⟨#[]⟩, .int .i64 0, .slice none 0 0, .int .i64 0, .slice none 0 0] 71 (0, 0)) := by subst hW1; rw [at_old (by simp), at_new (by simp)]
  have k2 : W1.heap[w.heap.size + 1 + 1]? = some (.cells #[.string s, .int .i64 0, .slice none 0 0, .int .i64 0, .slice none 0 0] 71 (0, 0)) := by subst hW1; exact at_new (by simp)
  have r1 := h.below B1
  have s1 := blk_lt k2
  go_enter Tryz.func115, Tryz.ntmps115
  have tok1 : True := trivial
  go_wp2_with (first
    | (go_at_call 146; clear tok1; rw [← hW1]; clear hW1; refine (Rl.toL_any _ _ _ _ _ _ _ r1).mono ?_; rintro e wa ⟨g, P, rfl, ba, hm, hsd⟩; replace k0 := (ba.block _ (blk_lt k0)).trans k0; replace k1 := (ba.block _ (blk_lt k1)).trans k1; replace k2 := (ba.block _ (blk_lt k2)).trans k2; obtain ⟨a0, a1, a2, a3, a4⟩ := five k0; obtain ⟨q0, q1, q2, q3, q4⟩ := five k2; have f2 := Vl.free k2; have HD : Hid (said P = said Q) := hsd; clear hsd; have B2 := Rw.next B1 ba; have s2 := ba.size; have tok2 : True := trivial)
    | (go_at_call 146; clear tok2; refine (Rl.toL_any _ _ _ _ _ _ _ (h'.below (by repeat (first | with_reducible exact B2 | refine Vl.bset ?_ (by simp <;> omega))))).mono ?_; rintro e wb ⟨g', P', rfl, bb, hm', hsd⟩; have HD' : Hid (said P' = said U) := hsd; clear hsd; clear q0 q1 q2 q3 q4 f2; have s3 := bb.size; simp only [World.size_setCell] at s3; replace k2 := (bb.block (w.heap.size + 1 + 1) (by simp; omega)).trans (five_set2 (five_set1 k2)); replace k1 := (bb.block (w.heap.size + 1) (by simp; omega)).trans ((Below.heap_setCell _ _ _ _ (by simp)).trans ((Below.heap_setCell _ _ _ _ (by simp)).trans k1)); obtain ⟨q0, q1, q2, q3, q4⟩ := five k2; obtain ⟨p0, p1, p2, p3, p4⟩ := five k1; have f1 := Vl.free k1; have f2 := Vl.free k2))
  refine bodyPost_ret (v := .agg #[.string s, .int .i64 ar, .slice (some ⟨g, 0, none⟩) P.length P.length, .int .i64 br, .slice (some ⟨g', 0, none⟩) P'.length P'.length]) (by simp [results, Tryz.results115, go_sem, p0, p1, p2, p3, p4]) rfl ⟨g, P, g', P', rfl, ?_, ?_, ?_, HD.out, HD'.out, ?_⟩
  · have B3 : Below w.heap.size w wb := Rw.next (by repeat (first | with_reducible exact B2 | refine Vl.bset ?_ (by simp <;> omega))) bb
    repeat (first | with_reducible exact B3 | refine Vl.bset ?_ (by simp <;> omega))
  · refine Rl.Own.mono (lo := W1.heap.size) (hi := wa.heap.size) ?_ (by omega) (by simp; omega)
    have hm2 : Rl.Own wb W1.heap.size wa.heap.size (some ⟨g, 0, none⟩) g P := by
      refine Rl.Own.keep hm fun x hx hx' => ?_
      rw [bb.block x (by simp; exact hx'), Below.heap_setCell _ _ _ _ (by simp; omega), Below.heap_setCell _ _ _ _ (by simp; omega)]
    repeat (first | with_reducible exact hm2 | refine Rl.Own.set ?_ (by simp; omega))
  · simp only [World.size_setCell] at hm'
    refine Rl.Own.mono (lo := wa.heap.size) (hi := wb.heap.size) ?_ (by omega) (by simp)
    repeat (first | with_reducible exact hm' | refine Rl.Own.set ?_ (by simp; omega))
  · intro r hr q hq h0 h0'
    simp only [World.size_setCell] at hm'
    have u1 := (hm.each r hr h0).2.2.1
    have u2 := (hm'.each q hq h0').2.1
    omega

/-- The changes that are copied so far. -/
structure Copied (w : World) (g : Nat) (P : List Cm) : Prop where
  each : ∀ x ∈ rels P, x.o = 0 ∧ (∃ lo hi, g < lo ∧ hi ≤ w.heap.size ∧ Rl.Own w lo hi x.a x.b x.Q) ∧ x.Q.length ≤ x.c
  str : ∀ x ∈ P, x.s.size ≤ maxLen
  diff : (rels P).Pairwise Far
theorem Copied.keep {w w' : World} {g : Nat} {P : List Cm} (h : Copied w g P) (hk : ∀ x, g < x → x < w.heap.size → w'.heap[x]? = w.heap[x]?) (hs : w.heap.size ≤ w'.heap.size) : Copied w' g P :=
  ⟨fun x hx => by obtain ⟨e, ⟨lo, hi, h1, h2, h3⟩, h4⟩ := h.each x hx; exact ⟨e, ⟨lo, hi, h1, by omega, h3.keep fun y hy hy' => hk y (by omega) hy'⟩, h4⟩, h.str, h.diff⟩
theorem take_told {T P : List Cm} (h : told P = (told T).take P.length) (hlt : P.length < T.length) {x : Cm} (hx : x.l = (T.getD P.length cm0).l) : told (P ++ [x]) = (told T).take (P ++ [x]).length := by
  have h2 : P.length < (told T).length := by rw [told_len]; exact hlt
  rw [told_app, h, hx, ← told_at hlt]
  have e2 : (P ++ [x]).length = P.length + 1 := by simp
  rw [e2, List.take_add_one, List.getElem?_eq_getElem h2]
  simp [List.getD, h2]
/-- Its lists are not longer than their room. -/
def Cm.Room (x : Cm) : Prop := x.p.Q.length ≤ x.p.c ∧ x.m.Q.length ≤ x.m.c
/-- All changes of the list have room for what they hold. -/
def Rooms (T : List Cm) : Prop := ∀ i, i < T.length → (T.getD i cm0).Room

set_option maxHeartbeats 2000000 in
theorem toCs_any (a : Option Addr) (b off cap : Nat) (T : List Cm) (w : World) (h : Rd w a b off T) :
    Calls Tryz.prog 62 #[.slice a T.length cap] w fun e w' => e = .returned (.slice (some ⟨w.heap.size, 0, none⟩) T.length T.length) ∧ Below w.heap.size w w' ∧ ∃ P, Own w' w.heap.size w'.heap.size (some ⟨w.heap.size, 0, none⟩) w.heap.size P ∧ told P = told T ∧ P.length = T.length ∧ Rooms P := by
  obtain ⟨hh, hc, ho, hs, hst⟩ := h
  obtain ⟨n, hn⟩ : ∃ n, n = T.length := ⟨_, rfl⟩
  have hmk := make5 n (by omega)
  rw [← hn] at hh hc ho hs hst ⊢
  have HN : Hid (n = T.length) := hn
  clear hn
  go_enter Tryz.func62, Tryz.ntmps62
  go_wp2
  clear hmk
  go_loopw [4] (fun i wr => ∃ P : List Cm, P.length ≤ n ∧ i = .int .i64 (P.length : Int) ∧ Below w.heap.size w wr ∧ wr.rowIs w.heap.size 71 (n * 5) (flat5 P) ∧ Copied wr w.heap.size P ∧ told P = (told T).take P.length) (fun i _ => n - (intOf i).toNat)
  case atStart => exact ⟨[], Nat.zero_le _, rfl, (Below.refl _ _).alloc (Nat.le_refl _) _, made5 w n, ⟨fun r hr => by simp [rels] at hr, fun r hr => by simp at hr, List.Pairwise.nil⟩, rfl⟩
  case round =>
    obtain ⟨P, hk, rfl, hbel, hrow, hcp, hsd⟩ := hrel
    have HS : Hid (told P = (told T).take P.length) := hsd
    clear hsd
    by_cases hlt : P.length < n
    · obtain rfl := hh (by omega)
      have hkz : (P.length : Int) < (n : Int) := by omega
      obtain ⟨c0, c1, c2, c3, c4⟩ := At5.of (hc P.length hlt) hbel (hc P.length hlt).lt
      have o1 := Rl.Rd.below (ho P.length hlt).1 hbel
      have o2 := Rl.Rd.below (ho P.length hlt).2 hbel
      have hst1 := hst P.length hlt
      have hlw := hrow.lt
      have HT : Hid (∀ r : Cm, r.l = (T.getD P.length cm0).l → told (P ++ [r]) = (told T).take (P ++ [r]).length) := fun r hr => take_told HS.out (by have := HN.out; omega) hr
      clear hc ho hh HS hst
      generalize T.getD P.length cm0 = x at c0 c1 c2 c3 c4 o1 o2 HT hst1
      obtain ⟨xs, ⟨xr, xa, xb, xo, xc, xQ⟩, ⟨yr, ya, yb, yo, yc, yQ⟩⟩ := x
      simp only [Cm.l, Re.l] at c0 c1 c2 c3 c4 o1 o2 HT hst1
      obtain ⟨k, hk1⟩ : ∃ k, k = P.length := ⟨_, rfl⟩
      have HK : Hid (k = P.length) := hk1
      have hz := flat5_at P
      rw [← hk1] at c0 c1 c2 c3 c4 hkz hlt hk hz ⊢
      clear hk1
      obtain ⟨z0, z1, z2, z3, z4⟩ := hz
      have cpl : ∀ x ∈ rels P, ∀ r ∈ x.Q, r.l.length ≠ 0 → r.b < wr.heap.size := fun x hx r hr h0 => by
        obtain ⟨_, ⟨lo, hi, _, h2, h3⟩, _⟩ := hcp.each x hx
        exact (h3.each r hr h0).2.2.2.lt
      go_wp2_with (go_at_call 115; refine (toC_any _ _ _ _ _ _ _ _ _ _ _ _ _ _ o1 o2).mono ?_; rintro e w1 ⟨g, X, g', X', rfl, hb, hm, hm', hX, hX', hF⟩; have HX : Hid (said X = said xQ ∧ said X' = said yQ) := ⟨hX, hX'⟩; clear hX hX'; replace hrow := hrow.of_block (hb.block _ hlw); replace hbel := Rw.next hbel hb; have hb1 := hb.size; replace hcp := hcp.keep (fun x _ hx => hb.block x hx) hb1; clear hb; have g0 := (hrow.cell (i := k * 5) (by omega)).trans (congrArg some z0); have g1 := (hrow.cell (i := k * 5 + 1) (by omega)).trans (congrArg some z1); have g2 := (hrow.cell (i := k * 5 + 2) (by omega)).trans (congrArg some z2); have g3 := (hrow.cell (i := k * 5 + 3) (by omega)).trans (congrArg some z3); have g4 := (hrow.cell (i := k * 5 + 4) (by omega)).trans (congrArg some z4); have f0 := hrow.frozen (k * 5); have f1 := hrow.frozen (k * 5 + 1); have f2 := hrow.frozen (k * 5 + 2); have f3 := hrow.frozen (k * 5 + 3); have f4 := hrow.frozen (k * 5 + 4))
      go_roundw
      case rel =>
        have hk2 := HK.out
        subst hk2
        refine ⟨P ++ [⟨xs, ⟨xr, some ⟨g, 0, none⟩, g, 0, X.length, X⟩, ⟨yr, some ⟨g', 0, none⟩, g', 0, X'.length, X'⟩⟩], by simp; omega, by simp only [List.length_append, List.length_singleton]; go_num, ((((hbel.setCell (by simp) _).setCell (by simp) _).setCell (by simp) _).setCell (by simp) _).setCell (by simp) _, ?_, ?_, HT.out _ (by simp only [Prod.mk.injEq, true_and]; exact HX.out)⟩
        · exact flat5_step (x := ⟨xs, ⟨xr, some ⟨g, 0, none⟩, g, 0, X.length, X⟩, ⟨yr, some ⟨g', 0, none⟩, g', 0, X'.length, X'⟩⟩) hrow
        · have hk3 : ∀ (u0 u1 u2 u3 u4 : Value) (p0 p1 p2 p3 p4 : Nat) x, w.heap.size < x → (((((w1.setCell ⟨w.heap.size, p0, none⟩ u0).setCell ⟨w.heap.size, p1, none⟩ u1).setCell ⟨w.heap.size, p2, none⟩ u2).setCell ⟨w.heap.size, p3, none⟩ u3).setCell ⟨w.heap.size, p4, none⟩ u4).heap[x]? = w1.heap[x]? := fun u0 u1 u2 u3 u4 p0 p1 p2 p3 p4 x hx => by
            rw [Below.heap_setCell _ _ _ _ (by simp; omega), Below.heap_setCell _ _ _ _ (by simp; omega), Below.heap_setCell _ _ _ _ (by simp; omega), Below.heap_setCell _ _ _ _ (by simp; omega), Below.heap_setCell _ _ _ _ (by simp; omega)]
          refine ⟨fun x hx => ?_, fun x hx => ?_, ?_⟩
          · rw [rels_app] at hx
            rcases List.mem_append.1 hx with hx | hx
            · exact (hcp.keep (fun x hx _ => hk3 _ _ _ _ _ _ _ _ _ _ x hx) (by simp)).each x hx
            · simp only [List.mem_cons, List.not_mem_nil, or_false] at hx
              rcases hx with rfl | rfl
              · exact ⟨rfl, ⟨wr.heap.size + 1, w1.heap.size, by omega, by simp, hm.keep fun y hy _ => hk3 _ _ _ _ _ _ _ _ _ _ y (by omega)⟩, Nat.le_refl _⟩
              · exact ⟨rfl, ⟨wr.heap.size + 1, w1.heap.size, by omega, by simp, hm'.keep fun y hy _ => hk3 _ _ _ _ _ _ _ _ _ _ y (by omega)⟩, Nat.le_refl _⟩
          · rcases List.mem_append.1 hx with hx | hx
            · exact hcp.str x hx
            · obtain rfl := List.mem_singleton.1 hx
              exact hst1
          · rw [rels_app, List.pairwise_append]
            refine ⟨hcp.diff, by simp only [List.pairwise_cons, List.mem_singleton, forall_eq, List.not_mem_nil, false_implies, implies_true, List.Pairwise.nil, and_true]; exact hF, fun x hx y hy r hr q hq h0 h0' => ?_⟩
            have u1 := cpl x hx r hr h0
            simp only [List.mem_cons, List.not_mem_nil, or_false] at hy
            rcases hy with rfl | rfl
            · have u2 := (hm.each q hq h0').2.1
              omega
            · have u2 := (hm'.each q hq h0').2.1
              omega
      case measure => have := HK.out; simp [intOf]; omega
    · have he : P.length = n := by omega
      have hkz : ¬ (P.length : Int) < (n : Int) := by omega
      go_wp2
      go_ret
      have hs1 : told P = told T := by rw [HS.out, he, HN.out, ← told_len T, List.take_length]
      refine ⟨rfl, hbel, P, ⟨⟨fun _ => rfl, fun i hi => ⟨?_, ?_, ?_, ?_, ?_⟩, fun i hi => ⟨?_, ?_⟩, by omega, fun i hi => hcp.str _ (mem_at hi)⟩, .inr ⟨Nat.le_refl _, ?_⟩, fun x hx => ?_, hcp.diff⟩, hs1, he, fun i hi => ⟨(hcp.each _ (mem_rels (mem_at hi)).1).2.2, (hcp.each _ (mem_rels (mem_at hi)).2).2.2⟩⟩
      · rw [← flat50, Nat.zero_add]; exact hrow.cell (by omega)
      · rw [← flat51, Nat.zero_add]; exact hrow.cell (by omega)
      · rw [← flat52, Nat.zero_add]; exact hrow.cell (by omega)
      · rw [← flat53, Nat.zero_add]; exact hrow.cell (by omega)
      · rw [← flat54, Nat.zero_add]; exact hrow.cell (by omega)
      · obtain ⟨e1, ⟨lo, hi', _, _, e4⟩, _⟩ := hcp.each _ (mem_rels (mem_at hi)).1
        rw [e1]; exact e4.rd
      · obtain ⟨e1, ⟨lo, hi', _, _, e4⟩, _⟩ := hcp.each _ (mem_rels (mem_at hi)).2
        rw [e1]; exact e4.rd
      · obtain ⟨cs, h1, _⟩ := hrow
        exact ⟨cs, h1⟩
      · obtain ⟨e1, ⟨lo, hi', e2, e3, e4⟩, _⟩ := hcp.each x hx
        exact ⟨e1, e4.mono (by omega) e3⟩

set_option maxHeartbeats 1000000 in
theorem toDl_any (a : Option Addr) (b off cap : Nat) (T : List Cm) (w : World) (h : Rd w a b off T) :
    Calls Tryz.prog 21 #[.agg #[.slice a T.length cap]] w fun e w' => ∃ g P, e = .returned (.agg #[.slice (some ⟨g, 0, none⟩) P.length P.length]) ∧ Below w.heap.size w w' ∧ Own w' w.heap.size w'.heap.size (some ⟨g, 0, none⟩) g P ∧ told P = told T ∧ Rooms P := by
  obtain ⟨W1, hW1⟩ : ∃ W1, W1 = ((w.alloc (.cells #[.slice a T.length cap] 47)).alloc (.cells #[.slice none 0 0] 30)).alloc (.cells #[.slice none 0 0] 30) := ⟨_, rfl⟩
  have B1 : Below w.heap.size w W1 := by subst hW1; exact Rw.next (Rw.next (below_alloc1 _ _) (below_alloc1 _ _)) (below_alloc1 _ _)
  have k1 : W1.heap[w.heap.size + 1]? = some (.cells #[.slice none 0 0] 30 (0, 0)) := by subst hW1; rw [at_old (by simp), at_new (by simp)]
  have k2 : W1.heap[w.heap.size + 1 + 1]? = some (.cells #[.slice none 0 0] 30 (0, 0)) := by subst hW1; exact at_new (by simp)
  have r1 := h.below B1
  have s1 := blk_lt k2
  go_enter Tryz.func21, Tryz.ntmps21
  go_wp2_with (go_at_call 62; rw [← hW1]; clear hW1; refine (toCs_any _ _ _ _ _ _ r1).mono ?_; rintro e wa ⟨rfl, ba, P, hm, hsd, hpl, hrm⟩; replace k1 := (ba.block _ (blk_lt k1)).trans k1; replace k2 := (ba.block _ (blk_lt k2)).trans k2; have p0 := one k1; have q0 := one k2; have f1 := Vl.free k1; have f2 := Vl.free k2; have HP : Hid (P.length = T.length) := hpl; have HD : Hid (told P = told T) := hsd; clear hpl hsd)
  refine bodyPost_ret (v := .agg #[.slice (some ⟨W1.heap.size, 0, none⟩) T.length T.length]) (by simp [results, Tryz.results21, go_sem, p0]) rfl ⟨W1.heap.size, P, by rw [HP.out], ?_, ?_, HD.out, hrm⟩
  · have B2 := Rw.next B1 ba
    repeat (first | with_reducible exact B2 | refine Vl.bset ?_ (by simp <;> omega))
  · refine Own.mono (lo := W1.heap.size) (hi := wa.heap.size) ?_ (by omega) (by simp)
    repeat (first | with_reducible exact hm | refine Own.set ?_ (by simp; omega))

end Go.Proofs.YtkpchlojapkimaaGreat.Ch

/-
  Copies of programs and their parts.
-/
import Derived.Test.YtljlgjgfmgilaaaGreatPrb
import Derived.Handy
import Derived.WalkLawsBesides
namespace Go.Proofs.YtljlgjgfmgilaaaGreat.Pm
set_option maxRecDepth 8000
set_option linter.unusedSimpArgs false
set_option linter.unusedVariables false
open Go Go.ChangeShapes Go.WideShapes Go.RowKit
open Num Pl

def kdAt : Kd Atm AtL where
  z := at0
  t := 52
  n := 2
  pos := by decide
  val := fun x j => match j with | 0 => .string x.s | _ => .slice x.A.a x.A.Q.length x.A.c
  l := Atm.l
  wt := Atm.wt
  ok := fun lo w x => x.Ok lo w
  keep := fun h hk => h.keep hk
  mono := fun h hl => h.mono hl
theorem bset {n : Nat} {w w1 : World} {a : Addr} {u : Value} (h : Below n w w1) (ha : n ≤ a.block) : Below n w (w1.setCell a u) := h.setCell ha u
theorem free {w : World} {g : Nat} {cs : Array Value} {t : TypeId} (h : w.heap[g]? = some (.cells cs t (0, 0))) (i : Nat) : w.frozen? ⟨g, i, none⟩ = false := by simp [World.frozen?, h]
theorem blk_cell {w : World} {g : Nat} {cs : Array Value} {t : TypeId} {u : Value} (h : w.heap[g]? = some (.cells cs t (0, 0))) (j : Nat) (hj : cs[j]? = some u) : w.cell? ⟨g, j, none⟩ = some u := by simp [World.cell?, h, hj]
theorem set_blk {w : World} {g : Nat} {cs cs' : Array Value} {t : TypeId} (h : w.heap[g]? = some (.cells cs t (0, 0))) (j : Nat) (u : Value) (e : cs.setIfInBounds j u = cs') : (w.setCell ⟨g, j, none⟩ u).heap[g]? = some (.cells cs' t (0, 0)) := by
  subst e
  simp [World.setCell, Array.getElem?_modify, h]
theorem keep_set {w : World} {g j x : Nat} {u : Value} (h : x ≠ g) : (w.setCell ⟨g, j, none⟩ u).heap[x]? = w.heap[x]? := Below.heap_setCell _ _ _ _ (by exact h)

section
variable {α L : Type} {K : Kd α L}
theorem Rd.set {lo : Nat} {w : World} {s : Sl α} {p : Addr} {u : Value} (h : Rd K lo w s) (hp : p.block < lo) : Rd K lo (w.setCell p u) s := h.keep fun z hz _ => Below.heap_setCell _ _ _ _ (by omega)
theorem ok_set {lo : Nat} {w : World} {x : α} {p : Addr} {u : Value} (h : K.ok lo w x) (hp : p.block < lo) : K.ok lo (w.setCell p u) x := K.keep h fun z hz _ => Below.heap_setCell _ _ _ _ (by omega)
theorem mem_at {Q : List α} {i : Nat} (hi : i < Q.length) : Q.getD i K.z ∈ Q := by
  have e : Q.getD i K.z = Q[i] := by simp [List.getD, hi]
  rw [e]; exact List.getElem_mem hi
/-- The function hands back a copy of the element, of the call's own. -/
def Cop (K : Kd α L) (f : FuncId) (c : α → Value) (x : α) (w : World) : Prop := ∀ W : World, Below w.heap.size w W → Calls Tryz.prog f #[c x] W fun e w' => ∃ y : α, e = .returned (c y) ∧ Below W.heap.size W w' ∧ K.ok W.heap.size w' y ∧ K.l y = K.l x
/-- .. of the slice. -/
def CopS (K : Kd α L) (f : FuncId) (s : Sl α) (w : World) : Prop := ∀ W : World, Below w.heap.size w W → Calls Tryz.prog f #[.slice s.a s.Q.length s.c] W fun e w' => ∃ s' : Sl α, e = .returned (.slice s'.a s'.Q.length s'.c) ∧ Below W.heap.size W w' ∧ Rd K W.heap.size w' s' ∧ told K s'.Q = told K s.Q
end

theorem toV_any (n : Int) (s : ByteArray) (w : World) :
    Calls Tryz.prog 157 #[.agg #[.int .i64 n, .string s]] w fun e w' => e = .returned (.agg #[.int .i64 n, .string s]) ∧ Below w.heap.size w w' := by
  go_enter Tryz.func157, Tryz.ntmps157
  go_wp2
  exact bodyPost_ret (v := .agg #[.int .i64 n, .string s]) (by simp [results, Tryz.results157, go_sem]) rfl ⟨rfl, Rw.next (below_alloc2 _ _ _) (below_alloc1 _ _)⟩
set_option maxHeartbeats 2000000 in
theorem toTm_any (x : Tm) (w : World) (h : x.Ok) : Cop kdTm 137 (fun x => .agg #[.string x.v, .int .i64 x.n, .string x.s]) x w := by
  intro W hbW
  obtain ⟨W1, hW1⟩ : ∃ W1, W1 = ((W.alloc (.cells #[.string x.v, .int .i64 x.n, .string x.s] 154)).alloc (.cells #[.string ⟨#[]⟩, .int .i64 0, .string ⟨#[]⟩] 94)).alloc (.cells #[.string x.v, .int .i64 0, .string ⟨#[]⟩] 94) := ⟨_, rfl⟩
  have D : Below W.heap.size W W1 := by subst hW1; exact Rw.next (Rw.next (below_alloc1 _ _) (below_alloc1 _ _)) (below_alloc1 _ _)
  have B := Rw.next hbW D
  have KA : W1.heap[W.heap.size]? = some (.cells #[.string x.v, .int .i64 x.n, .string x.s] 154 (0, 0)) := by subst hW1; rw [at_old (by simp; omega), at_old (by simp), at_new rfl]
  have KR : W1.heap[W.heap.size + 1]? = some (.cells #[.string ⟨#[]⟩, .int .i64 0, .string ⟨#[]⟩] 94 (0, 0)) := by subst hW1; rw [at_old (by simp), at_new (by simp)]
  have KO : W1.heap[W.heap.size + 1 + 1]? = some (.cells #[.string x.v, .int .i64 0, .string ⟨#[]⟩] 94 (0, 0)) := by subst hW1; exact at_new (by simp)
  have s1 := blk_lt KO
  have t0 : True := trivial
  have s0 := hbW.size
  clear hbW
  go_enter Tryz.func137, Tryz.ntmps137
  go_wp2_with (first
    | (clear t0; go_at_call 157; rw [← hW1]; clear hW1; refine (toV_any _ _ _).mono ?_; rintro e w0 ⟨rfl, hb⟩; replace KO := (hb.block (W.heap.size + 1 + 1) (blk_lt KO)).trans (KO); replace KA := (hb.block (W.heap.size) (blk_lt KA)).trans (KA); replace KR := (hb.block (W.heap.size + 1) (blk_lt KR)).trans (KR); have s2 := hb.size; replace B := Rw.next B hb; replace D := Rw.next D hb; clear hb; have zo0 := blk_cell (u := .string x.v) KO 0 rfl; have zo1 := blk_cell (u := .int .i64 0) KO 1 rfl; have zo2 := blk_cell (u := .string ⟨#[]⟩) KO 2 rfl; have fo := free KO; have zr0 := blk_cell (u := .string ⟨#[]⟩) KR 0 rfl; have zr1 := blk_cell (u := .int .i64 0) KR 1 rfl; have zr2 := blk_cell (u := .string ⟨#[]⟩) KR 2 rfl; have fr := free KR))
  refine bodyPost_ret (v := .agg #[.string x.v, .int .i64 x.n, .string x.s]) (by simp [results, Tryz.results137, go_sem, zr0, zr1, zr2]) rfl ⟨x, rfl, ?_, ?_, ?_⟩
  · repeat (first | with_reducible exact D | refine bset ?_ (by simp <;> omega))
  · exact h
  · rfl
theorem infoTm : (Tryz.prog.info? 94).map (fun i => (i.zero, i.size, i.bytes)) = some (some (.agg #[.string ⟨#[]⟩, .int .i64 0, .string ⟨#[]⟩]), 3, 40) := by kernel_rfl
theorem makeTm (n : Nat) (hn : n ≤ 1048576) (w : World) :
    (Instr.makeSlice 50 (.int .i64 n) (.int .i64 n)).run Tryz.prog w = .ok (.slice (some ⟨w.heap.size, 0, none⟩) n n) (w.alloc (.cells (madeCells #[.string ⟨#[]⟩, .int .i64 0, .string ⟨#[]⟩] (n * 3)) 94)) := by
  obtain ⟨i, hi, hzz⟩ := Option.map_eq_some_iff.1 infoTm
  simp only [Prod.mk.injEq] at hzz
  obtain ⟨hz, hs, hb⟩ := hzz
  have hr := run_make (P := Tryz.prog) w 50 94 i _ Tryz.underlying50 hi hz .i64 .i64 n n (by omega) (Int.le_refl _) (by rw [hb]; omega) (by omega)
  simp only [Int.toNat_natCast, hs, Value.cells] at hr
  exact hr
theorem madeTm (w : World) (n : Nat) : (w.alloc (.cells (madeCells #[.string ⟨#[]⟩, .int .i64 0, .string ⟨#[]⟩] (n * 3)) 94)).rowIs w.heap.size 94 (n * 3) (flat kdTm ([] : List Tm)) :=
  ⟨_, at_new rfl, size_madeCells _ _, fun i hi => by
    have e : i % 3 = 0 ∨ i % 3 = 1 ∨ i % 3 = 2 := by omega
    have e0 : flat kdTm ([] : List Tm) i = kdTm.val tm0 (i % 3) := rfl
    rw [e0]
    rcases e with e | e | e <;> rw [e] <;> simp [madeCells, hi, e] <;> rfl⟩

theorem flat_stepTm {w : World} {g n : Nat} {t : TypeId} {P : List Tm} {x : Tm} (h : w.rowIs g t n (flat kdTm P)) : (puts w g (P.length * 3) [.string x.v, .int .i64 x.n, .string x.s]).rowIs g t n (flat kdTm (P ++ [x])) :=
  flat_step (K := kdTm) h
set_option maxHeartbeats 2000000 in
theorem toTms_any (s : Sl Tm) (w : World) (h : Rd kdTm 0 w s) (hl : s.Q.length ≤ 1048576) (hc : ∀ x ∈ s.Q, Cop kdTm 137 (fun y : Tm => .agg #[.string y.v, .int .i64 y.n, .string y.s]) x w) : CopS kdTm 107 s w := by
  intro W hbW
  have h2 := h.keep (fun z _ hz => hbW.block z hz)
  obtain ⟨sa, sb, so, sc, sQ⟩ := s
  simp only at hl hc ⊢
  have HC : Hid (∀ i, i < sQ.length → ∀ x, x = sQ.getD i tm0 → Cop kdTm 137 (fun y : Tm => .agg #[.string y.v, .int .i64 y.n, .string y.s]) x w) := fun i hi x hx => hc x (by rw [hx]; exact mem_at (K := kdTm) hi)
  clear hc h
  obtain ⟨n, hn⟩ : ∃ n, n = sQ.length := ⟨_, rfl⟩
  have hmk := makeTm n (by omega)
  rw [← hn] at hl HC ⊢
  have HN : Hid (n = sQ.length) := hn
  clear hn
  go_enter Tryz.func107, Tryz.ntmps107
  go_wp2
  clear hmk
  go_loopw [4] (fun i wr => ∃ P : List Tm, P.length ≤ n ∧ i = .int .i64 (P.length : Int) ∧ Below W.heap.size W wr ∧ wr.rowIs W.heap.size 94 (n * 3) (flat kdTm P) ∧ (∀ x ∈ P, kdTm.ok (W.heap.size + 1) wr x) ∧ told kdTm P = (told kdTm sQ).take P.length) (fun i _ => n - (intOf i).toNat)
  case atStart => exact ⟨[], Nat.zero_le _, rfl, (Below.refl _ _).alloc (Nat.le_refl _) _, madeTm W n, fun r hr => by simp at hr, rfl⟩
  case round =>
    obtain ⟨P, hk, rfl, hbel, hrow, hcp, hsd⟩ := hrel
    have HS : Hid (told kdTm P = (told kdTm sQ).take P.length) := hsd
    clear hsd
    by_cases hlt : P.length < n
    · have hlQ : P.length < sQ.length := by have := HN.out; omega
      have hh := h2.head (by simp only; omega)
      have hkz : (P.length : Int) < (n : Int) := by omega
      obtain ⟨c0, c1, c2⟩ := cellsTm (h2.below hbel) hlQ
      try simp only at hh c0 c1 c2
      obtain rfl := hh
      have hlw := hrow.lt
      have HT : Hid (∀ r : Tm, kdTm.l r = kdTm.l (sQ.getD P.length tm0) → told kdTm (P ++ [r]) = (told kdTm sQ).take (P ++ [r]).length) := fun r hr => take_told HS.out hlQ hr
      have hCx := HC.out P.length hlt _ rfl
      clear h2 HC HS hlQ
      generalize sQ.getD P.length tm0 = x at c0 c1 c2 HT hCx
      obtain ⟨k, hk1⟩ : ∃ k, k = P.length := ⟨_, rfl⟩
      have HK : Hid (k = P.length) := hk1
      have z0 : flat kdTm P (k * 3) = .string ⟨#[]⟩ := by rw [hk1]; exact (flat_at P P.length 0 (by decide)).trans (by rw [getD_end]; rfl)
      have z1 : flat kdTm P (k * 3 + 1) = .int .i64 0 := by rw [hk1]; exact (flat_at P P.length 1 (by decide)).trans (by rw [getD_end]; rfl)
      have z2 : flat kdTm P (k * 3 + 2) = .string ⟨#[]⟩ := by rw [hk1]; exact (flat_at P P.length 2 (by decide)).trans (by rw [getD_end]; rfl)
      rw [← hk1] at c0 c1 c2 hkz hlt hk ⊢
      clear hk1
      go_wp2_with (go_at_call 137; refine (hCx _ (Rw.next hbW hbel)).mono ?_; rintro e w1 ⟨y, rfl, hb, hm, hy⟩; have HY : Hid (kdTm.l y = kdTm.l x) := hy; clear hy; replace hrow := hrow.of_block (hb.block _ hlw); replace hbel := Rw.next hbel hb; have hb1 := hb.size; replace hcp := fun x hx => ok_below (hcp x hx) hb; clear hb; have g0 := (hrow.cell (i := k * 3) (by omega)).trans (congrArg some z0); have f0 := hrow.frozen (k * 3); have g1 := (hrow.cell (i := k * 3 + 1) (by omega)).trans (congrArg some z1); have f1 := hrow.frozen (k * 3 + 1); have g2 := (hrow.cell (i := k * 3 + 2) (by omega)).trans (congrArg some z2); have f2 := hrow.frozen (k * 3 + 2))
      go_roundw
      case rel =>
        have hk2 := HK.out
        subst hk2
        refine ⟨P ++ [y], by simp; omega, by simp only [List.length_append, List.length_singleton]; go_num, ?_, ?_, ?_, HT.out _ HY.out⟩
        · repeat (first | with_reducible exact hbel | refine bset ?_ (by simp <;> omega))
        · exact flat_stepTm (x := y) hrow
        · intro x hx
          rcases List.mem_append.1 hx with hx | hx
          · have hq := hcp x hx
            repeat (first | with_reducible exact hq | refine ok_set ?_ (by simp))
          · obtain rfl := List.mem_singleton.1 hx
            have hq := kdTm.mono hm (by omega : W.heap.size + 1 ≤ _)
            repeat (first | with_reducible exact hq | refine ok_set ?_ (by simp))
      case measure => have := HK.out; simp [intOf]; omega
    · have he : P.length = n := by omega
      have hkz : ¬ (P.length : Int) < (n : Int) := by omega
      clear h2
      go_wp2
      go_ret
      have hs1 : told kdTm P = told kdTm sQ := by rw [HS.out, he, HN.out, ← told_len sQ, List.take_length]
      refine ⟨⟨some ⟨W.heap.size, 0, none⟩, W.heap.size, 0, n, P⟩, by show Ending.returned (.slice (some ⟨W.heap.size, 0, none⟩) n n) = .returned (.slice (some ⟨W.heap.size, 0, none⟩) P.length n); rw [he], hbel, ?_, hs1⟩
      refine rd_of_row (t := 94) ?_ (Nat.le_refl _) (fun x hx => kdTm.mono (hcp x hx) (by omega)) (by unfold maxLen; omega) (by omega) rfl
      show wr.rowIs _ _ (P.length * 3) _
      rw [he]; exact hrow

set_option maxHeartbeats 2000000 in
theorem toDc_any (x : Dc) (w : World) (h : x.s.size ≤ maxLen) : Cop kdDc 44 (fun x => .agg #[.int .i64 x.k, .string x.s, .int .i64 x.ar]) x w := by
  intro W hbW
  obtain ⟨W1, hW1⟩ : ∃ W1, W1 = ((W.alloc (.cells #[.int .i64 x.k, .string x.s, .int .i64 x.ar] 77)).alloc (.cells #[.int .i64 0, .string ⟨#[]⟩, .int .i64 0] 48)).alloc (.cells #[.int .i64 x.k, .string x.s, .int .i64 x.ar] 48) := ⟨_, rfl⟩
  have D : Below W.heap.size W W1 := by subst hW1; exact Rw.next (Rw.next (below_alloc1 _ _) (below_alloc1 _ _)) (below_alloc1 _ _)
  have B := Rw.next hbW D
  have KA : W1.heap[W.heap.size]? = some (.cells #[.int .i64 x.k, .string x.s, .int .i64 x.ar] 77 (0, 0)) := by subst hW1; rw [at_old (by simp; omega), at_old (by simp), at_new rfl]
  have KR : W1.heap[W.heap.size + 1]? = some (.cells #[.int .i64 0, .string ⟨#[]⟩, .int .i64 0] 48 (0, 0)) := by subst hW1; rw [at_old (by simp), at_new (by simp)]
  have KO : W1.heap[W.heap.size + 1 + 1]? = some (.cells #[.int .i64 x.k, .string x.s, .int .i64 x.ar] 48 (0, 0)) := by subst hW1; exact at_new (by simp)
  have s1 := blk_lt KO
  have s0 := hbW.size
  clear hbW
  go_enter Tryz.func44, Tryz.ntmps44
  go_wp2
  exact bodyPost_ret (v := .agg #[.int .i64 x.k, .string x.s, .int .i64 x.ar]) (by simp [results, Tryz.results44, go_sem]) rfl ⟨x, rfl, Rw.next (below_alloc2 _ _ _) (below_alloc1 _ _), h, rfl⟩
theorem infoDc : (Tryz.prog.info? 48).map (fun i => (i.zero, i.size, i.bytes)) = some (some (.agg #[.int .i64 0, .string ⟨#[]⟩, .int .i64 0]), 3, 32) := by kernel_rfl
theorem makeDc (n : Nat) (hn : n ≤ 1048576) (w : World) :
    (Instr.makeSlice 29 (.int .i64 n) (.int .i64 n)).run Tryz.prog w = .ok (.slice (some ⟨w.heap.size, 0, none⟩) n n) (w.alloc (.cells (madeCells #[.int .i64 0, .string ⟨#[]⟩, .int .i64 0] (n * 3)) 48)) := by
  obtain ⟨i, hi, hzz⟩ := Option.map_eq_some_iff.1 infoDc
  simp only [Prod.mk.injEq] at hzz
  obtain ⟨hz, hs, hb⟩ := hzz
  have hr := run_make (P := Tryz.prog) w 29 48 i _ Tryz.underlying29 hi hz .i64 .i64 n n (by omega) (Int.le_refl _) (by rw [hb]; omega) (by omega)
  simp only [Int.toNat_natCast, hs, Value.cells] at hr
  exact hr
theorem madeDc (w : World) (n : Nat) : (w.alloc (.cells (madeCells #[.int .i64 0, .string ⟨#[]⟩, .int .i64 0] (n * 3)) 48)).rowIs w.heap.size 48 (n * 3) (flat kdDc ([] : List Dc)) :=
  ⟨_, at_new rfl, size_madeCells _ _, fun i hi => by
    have e : i % 3 = 0 ∨ i % 3 = 1 ∨ i % 3 = 2 := by omega
    have e0 : flat kdDc ([] : List Dc) i = kdDc.val dc0 (i % 3) := rfl
    rw [e0]
    rcases e with e | e | e <;> rw [e] <;> simp [madeCells, hi, e] <;> rfl⟩

/-- For the copies that function 20 makes. -/
theorem flat_stepDc {w : World} {g n : Nat} {t : TypeId} {P : List Dc} {x : Dc} (h : w.rowIs g t n (flat kdDc P)) : (puts w g (P.length * 3) [.int .i64 x.k, .string x.s, .int .i64 x.ar]).rowIs g t n (flat kdDc (P ++ [x])) :=
  flat_step (K := kdDc) h
set_option maxHeartbeats 2000000 in
theorem toDcs_any (s : Sl Dc) (w : World) (h : Rd kdDc 0 w s) (hl : s.Q.length ≤ 1048576) (hc : ∀ x ∈ s.Q, Cop kdDc 44 (fun y : Dc => .agg #[.int .i64 y.k, .string y.s, .int .i64 y.ar]) x w) : CopS kdDc 20 s w := by
  intro W hbW
  have h2 := h.keep (fun z _ hz => hbW.block z hz)
  obtain ⟨sa, sb, so, sc, sQ⟩ := s
  simp only at hl hc ⊢
  have HC : Hid (∀ i, i < sQ.length → ∀ x, x = sQ.getD i dc0 → Cop kdDc 44 (fun y : Dc => .agg #[.int .i64 y.k, .string y.s, .int .i64 y.ar]) x w) := fun i hi x hx => hc x (by rw [hx]; exact mem_at (K := kdDc) hi)
  clear hc h
  obtain ⟨n, hn⟩ : ∃ n, n = sQ.length := ⟨_, rfl⟩
  have hmk := makeDc n (by omega)
  rw [← hn] at hl HC ⊢
  have HN : Hid (n = sQ.length) := hn
  clear hn
  go_enter Tryz.func20, Tryz.ntmps20
  go_wp2
  clear hmk
  go_loopw [4] (fun i wr => ∃ P : List Dc, P.length ≤ n ∧ i = .int .i64 (P.length : Int) ∧ Below W.heap.size W wr ∧ wr.rowIs W.heap.size 48 (n * 3) (flat kdDc P) ∧ (∀ x ∈ P, kdDc.ok (W.heap.size + 1) wr x) ∧ told kdDc P = (told kdDc sQ).take P.length) (fun i _ => n - (intOf i).toNat)
  case atStart => exact ⟨[], Nat.zero_le _, rfl, (Below.refl _ _).alloc (Nat.le_refl _) _, madeDc W n, fun r hr => by simp at hr, rfl⟩
  case round =>
    obtain ⟨P, hk, rfl, hbel, hrow, hcp, hsd⟩ := hrel
    have HS : Hid (told kdDc P = (told kdDc sQ).take P.length) := hsd
    clear hsd
    by_cases hlt : P.length < n
    · have hlQ : P.length < sQ.length := by have := HN.out; omega
      have hh := h2.head (by simp only; omega)
      have hkz : (P.length : Int) < (n : Int) := by omega
      obtain ⟨c0, c1, c2⟩ := cellsDc (h2.below hbel) hlQ
      try simp only at hh c0 c1 c2
      obtain rfl := hh
      have hlw := hrow.lt
      have HT : Hid (∀ r : Dc, kdDc.l r = kdDc.l (sQ.getD P.length dc0) → told kdDc (P ++ [r]) = (told kdDc sQ).take (P ++ [r]).length) := fun r hr => take_told HS.out hlQ hr
      have hCx := HC.out P.length hlt _ rfl
      clear h2 HC HS hlQ
      generalize sQ.getD P.length dc0 = x at c0 c1 c2 HT hCx
      obtain ⟨k, hk1⟩ : ∃ k, k = P.length := ⟨_, rfl⟩
      have HK : Hid (k = P.length) := hk1
      have z0 : flat kdDc P (k * 3) = .int .i64 0 := by rw [hk1]; exact (flat_at P P.length 0 (by decide)).trans (by rw [getD_end]; rfl)
      have z1 : flat kdDc P (k * 3 + 1) = .string ⟨#[]⟩ := by rw [hk1]; exact (flat_at P P.length 1 (by decide)).trans (by rw [getD_end]; rfl)
      have z2 : flat kdDc P (k * 3 + 2) = .int .i64 0 := by rw [hk1]; exact (flat_at P P.length 2 (by decide)).trans (by rw [getD_end]; rfl)
      rw [← hk1] at c0 c1 c2 hkz hlt hk ⊢
      clear hk1
      go_wp2_with (go_at_call 44; refine (hCx _ (Rw.next hbW hbel)).mono ?_; rintro e w1 ⟨y, rfl, hb, hm, hy⟩; have HY : Hid (kdDc.l y = kdDc.l x) := hy; clear hy; replace hrow := hrow.of_block (hb.block _ hlw); replace hbel := Rw.next hbel hb; have hb1 := hb.size; replace hcp := fun x hx => ok_below (hcp x hx) hb; clear hb; have g0 := (hrow.cell (i := k * 3) (by omega)).trans (congrArg some z0); have f0 := hrow.frozen (k * 3); have g1 := (hrow.cell (i := k * 3 + 1) (by omega)).trans (congrArg some z1); have f1 := hrow.frozen (k * 3 + 1); have g2 := (hrow.cell (i := k * 3 + 2) (by omega)).trans (congrArg some z2); have f2 := hrow.frozen (k * 3 + 2))
      go_roundw
      case rel =>
        have hk2 := HK.out
        subst hk2
        refine ⟨P ++ [y], by simp; omega, by simp only [List.length_append, List.length_singleton]; go_num, ?_, ?_, ?_, HT.out _ HY.out⟩
        · repeat (first | with_reducible exact hbel | refine bset ?_ (by simp <;> omega))
        · exact flat_stepDc (x := y) hrow
        · intro x hx
          rcases List.mem_append.1 hx with hx | hx
          · have hq := hcp x hx
            repeat (first | with_reducible exact hq | refine ok_set ?_ (by simp))
          · obtain rfl := List.mem_singleton.1 hx
            have hq := kdDc.mono hm (by omega : W.heap.size + 1 ≤ _)
            repeat (first | with_reducible exact hq | refine ok_set ?_ (by simp))
      case measure => have := HK.out; simp [intOf]; omega
    · have he : P.length = n := by omega
      have hkz : ¬ (P.length : Int) < (n : Int) := by omega
      clear h2
      go_wp2
      go_ret
      have hs1 : told kdDc P = told kdDc sQ := by rw [HS.out, he, HN.out, ← told_len sQ, List.take_length]
      refine ⟨⟨some ⟨W.heap.size, 0, none⟩, W.heap.size, 0, n, P⟩, by show Ending.returned (.slice (some ⟨W.heap.size, 0, none⟩) n n) = .returned (.slice (some ⟨W.heap.size, 0, none⟩) P.length n); rw [he], hbel, ?_, hs1⟩
      refine rd_of_row (t := 48) ?_ (Nat.le_refl _) (fun x hx => kdDc.mono (hcp x hx) (by omega)) (by unfold maxLen; omega) (by omega) rfl
      show wr.rowIs _ _ (P.length * 3) _
      rw [he]; exact hrow

theorem len_wt {α L : Type} {K : Kd α L} {Q : List α} {n : Nat} (h : wtS K Q ≤ n) : Q.length ≤ n := by unfold wtS at h; omega
theorem mem_wt {α L : Type} {K : Kd α L} {Q : List α} {n : Nat} (h : wtS K Q ≤ n) {x : α} (hx : x ∈ Q) : K.wt x ≤ n := by
  obtain ⟨i, hi, rfl⟩ := List.getElem_of_mem hx
  have := wt_at (K := K) hi
  have e : Q.getD i K.z = Q[i] := by simp [List.getD, hi]
  rw [e] at this
  omega
theorem mem_ok {α L : Type} {K : Kd α L} {lo : Nat} {w : World} {s : Sl α} (h : Rd K lo w s) {x : α} (hx : x ∈ s.Q) : K.ok lo w x := by
  obtain ⟨i, hi, rfl⟩ := List.getElem_of_mem hx
  have := h.ok i hi
  have e : s.Q.getD i K.z = s.Q[i] := by simp [List.getD, hi]
  rwa [e] at this
set_option maxHeartbeats 2000000 in
theorem toAt_any (x : Atm) (w : World) (h : x.Ok 0 w) (hs : x.wt ≤ 1048576) : Cop kdAt 77 (fun x => .agg #[.string x.s, .slice x.A.a x.A.Q.length x.A.c]) x w := by
  intro W hbW
  obtain ⟨W1, hW1⟩ : ∃ W1, W1 = ((W.alloc (.cells #[.string x.s, .slice x.A.a x.A.Q.length x.A.c] 81)).alloc (.cells #[.string ⟨#[]⟩, .slice none 0 0] 52)).alloc (.cells #[.string x.s, .slice none 0 0] 52) := ⟨_, rfl⟩
  have D : Below W.heap.size W W1 := by subst hW1; exact Rw.next (Rw.next (below_alloc1 _ _) (below_alloc1 _ _)) (below_alloc1 _ _)
  have B := Rw.next hbW D
  have KA : W1.heap[W.heap.size]? = some (.cells #[.string x.s, .slice x.A.a x.A.Q.length x.A.c] 81 (0, 0)) := by subst hW1; rw [at_old (by simp; omega), at_old (by simp), at_new rfl]
  have KR : W1.heap[W.heap.size + 1]? = some (.cells #[.string ⟨#[]⟩, .slice none 0 0] 52 (0, 0)) := by subst hW1; rw [at_old (by simp), at_new (by simp)]
  have KO : W1.heap[W.heap.size + 1 + 1]? = some (.cells #[.string x.s, .slice none 0 0] 52 (0, 0)) := by subst hW1; exact at_new (by simp)
  have s1 := blk_lt KO
  have t0 : True := trivial
  have s0 := hbW.size
  clear hbW
  go_enter Tryz.func77, Tryz.ntmps77
  go_wp2_with (first
    | (clear t0; go_at_call 107; rw [← hW1]; clear hW1; refine (toTms_any x.A w h.2 (len_wt (K := kdTm) (n := 1048576) (by unfold Atm.wt at hs; omega)) (fun x hx => toTm_any x w (mem_ok h.2 hx)) _ B).mono ?_; rintro e w0 ⟨s, rfl, hb, hm, hq⟩; replace KO := (hb.block (W.heap.size + 1 + 1) (blk_lt KO)).trans (KO); replace KA := (hb.block (W.heap.size) (blk_lt KA)).trans (KA); replace KR := (hb.block (W.heap.size + 1) (blk_lt KR)).trans (KR); have s2 := hb.size; replace B := Rw.next B hb; replace D := Rw.next D hb; clear hb; have zo0 := blk_cell (u := .string x.s) KO 0 rfl; have zo1 := blk_cell (u := .slice none 0 0) KO 1 rfl; have fo := free KO; have zr0 := blk_cell (u := .string ⟨#[]⟩) KR 0 rfl; have zr1 := blk_cell (u := .slice none 0 0) KR 1 rfl; have fr := free KR))
  refine bodyPost_ret (v := .agg #[.string x.s, .slice s.a s.Q.length s.c]) (by simp [results, Tryz.results77, go_sem, zr0, zr1]) rfl ⟨⟨x.s, s⟩, rfl, ?_, ?_, ?_⟩
  · repeat (first | with_reducible exact D | refine bset ?_ (by simp <;> omega))
  · refine ⟨h.1, Rd.mono (lo := W1.heap.size) ?_ (by omega)⟩
    repeat (first | with_reducible exact hm | refine Rd.set ?_ (by simp; omega))
  · show ((x.s, s.Q) : AtL) = (x.s, x.A.Q)
    rw [← told_tm s.Q, hq, told_tm]
set_option maxHeartbeats 2000000 in
theorem toLm_any (x : Lm) (w : World) (h : x.Ok 0 w) (hs : x.wt ≤ 1048576) : Cop kdLm 108 (fun x => .agg #[.int .i64 x.k, .string x.h.s, .slice x.h.A.a x.h.A.Q.length x.h.A.c, .int .i64 x.op, .string x.p.v, .int .i64 x.p.n, .string x.p.s, .string x.q.v, .int .i64 x.q.n, .string x.q.s]) x w := by
  intro W hbW
  obtain ⟨W1, hW1⟩ : ∃ W1, W1 = ((W.alloc (.cells #[.int .i64 x.k, .string x.h.s, .slice x.h.A.a x.h.A.Q.length x.h.A.c, .int .i64 x.op, .string x.p.v, .int .i64 x.p.n, .string x.p.s, .string x.q.v, .int .i64 x.q.n, .string x.q.s] 156)).alloc (.cells #[.int .i64 0, .string ⟨#[]⟩, .slice none 0 0, .int .i64 0, .string ⟨#[]⟩, .int .i64 0, .string ⟨#[]⟩, .string ⟨#[]⟩, .int .i64 0, .string ⟨#[]⟩] 96)).alloc (.cells #[.int .i64 x.k, .string ⟨#[]⟩, .slice none 0 0, .int .i64 0, .string ⟨#[]⟩, .int .i64 0, .string ⟨#[]⟩, .string ⟨#[]⟩, .int .i64 0, .string ⟨#[]⟩] 96) := ⟨_, rfl⟩
  have D : Below W.heap.size W W1 := by subst hW1; exact Rw.next (Rw.next (below_alloc1 _ _) (below_alloc1 _ _)) (below_alloc1 _ _)
  have B := Rw.next hbW D
  have KA : W1.heap[W.heap.size]? = some (.cells #[.int .i64 x.k, .string x.h.s, .slice x.h.A.a x.h.A.Q.length x.h.A.c, .int .i64 x.op, .string x.p.v, .int .i64 x.p.n, .string x.p.s, .string x.q.v, .int .i64 x.q.n, .string x.q.s] 156 (0, 0)) := by subst hW1; rw [at_old (by simp; omega), at_old (by simp), at_new rfl]
  have KR : W1.heap[W.heap.size + 1]? = some (.cells #[.int .i64 0, .string ⟨#[]⟩, .slice none 0 0, .int .i64 0, .string ⟨#[]⟩, .int .i64 0, .string ⟨#[]⟩, .string ⟨#[]⟩, .int .i64 0, .string ⟨#[]⟩] 96 (0, 0)) := by subst hW1; rw [at_old (by simp), at_new (by simp)]
  have KO : W1.heap[W.heap.size + 1 + 1]? = some (.cells #[.int .i64 x.k, .string ⟨#[]⟩, .slice none 0 0, .int .i64 0, .string ⟨#[]⟩, .int .i64 0, .string ⟨#[]⟩, .string ⟨#[]⟩, .int .i64 0, .string ⟨#[]⟩] 96 (0, 0)) := by subst hW1; exact at_new (by simp)
  have s1 := blk_lt KO
  have t0 : True := trivial
  have t1 : True := trivial
  have t2 : True := trivial
  have s0 := hbW.size
  clear hbW
  go_enter Tryz.func108, Tryz.ntmps108
  go_wp2_with (first
    | (clear t0; go_at_call 77; rw [← hW1]; clear hW1; refine (toAt_any x.h w h.1 (by unfold Lm.wt at hs; omega) _ B).mono ?_; rintro e w0 ⟨y, rfl, hb, hm, hq⟩; replace KO := (hb.block (W.heap.size + 1 + 1) (blk_lt KO)).trans (KO); replace KA := (hb.block (W.heap.size) (blk_lt KA)).trans (KA); replace KR := (hb.block (W.heap.size + 1) (blk_lt KR)).trans (KR); have s2 := hb.size; replace B := Rw.next B hb; replace D := Rw.next D hb; clear hb; have zo0 := blk_cell (u := .int .i64 x.k) KO 0 rfl; have zo1 := blk_cell (u := .string ⟨#[]⟩) KO 1 rfl; have zo2 := blk_cell (u := .slice none 0 0) KO 2 rfl; have zo3 := blk_cell (u := .int .i64 0) KO 3 rfl; have zo4 := blk_cell (u := .string ⟨#[]⟩) KO 4 rfl; have zo5 := blk_cell (u := .int .i64 0) KO 5 rfl; have zo6 := blk_cell (u := .string ⟨#[]⟩) KO 6 rfl; have zo7 := blk_cell (u := .string ⟨#[]⟩) KO 7 rfl; have zo8 := blk_cell (u := .int .i64 0) KO 8 rfl; have zo9 := blk_cell (u := .string ⟨#[]⟩) KO 9 rfl; have fo := free KO; have za0 := blk_cell (u := .int .i64 x.k) KA 0 rfl; have za1 := blk_cell (u := .string x.h.s) KA 1 rfl; have za2 := blk_cell (u := .slice x.h.A.a x.h.A.Q.length x.h.A.c) KA 2 rfl; have za3 := blk_cell (u := .int .i64 x.op) KA 3 rfl; have za4 := blk_cell (u := .string x.p.v) KA 4 rfl; have za5 := blk_cell (u := .int .i64 x.p.n) KA 5 rfl; have za6 := blk_cell (u := .string x.p.s) KA 6 rfl; have za7 := blk_cell (u := .string x.q.v) KA 7 rfl; have za8 := blk_cell (u := .int .i64 x.q.n) KA 8 rfl; have za9 := blk_cell (u := .string x.q.s) KA 9 rfl)
    | (clear t1; go_at_call 137; refine (toTm_any x.p w h.2.1 _ (by repeat (first | with_reducible exact B | refine bset ?_ (by simp <;> omega)))).mono ?_; rintro e w1 ⟨y1, rfl, hb, _, hq1⟩; clear zo0 zo1 zo2 zo3 zo4 zo5 zo6 zo7 zo8 zo9 fo za0 za1 za2 za3 za4 za5 za6 za7 za8 za9; replace KO := (hb.block (W.heap.size + 1 + 1) (by simp; omega)).trans (set_blk (set_blk (set_blk (KO) 1 (.string y.s) (cs' := #[.int .i64 x.k, .string y.s, .slice none 0 0, .int .i64 0, .string ⟨#[]⟩, .int .i64 0, .string ⟨#[]⟩, .string ⟨#[]⟩, .int .i64 0, .string ⟨#[]⟩]) rfl) 2 (.slice y.A.a y.A.Q.length y.A.c) (cs' := #[.int .i64 x.k, .string y.s, .slice y.A.a y.A.Q.length y.A.c, .int .i64 0, .string ⟨#[]⟩, .int .i64 0, .string ⟨#[]⟩, .string ⟨#[]⟩, .int .i64 0, .string ⟨#[]⟩]) rfl) 3 (.int .i64 x.op) (cs' := #[.int .i64 x.k, .string y.s, .slice y.A.a y.A.Q.length y.A.c, .int .i64 x.op, .string ⟨#[]⟩, .int .i64 0, .string ⟨#[]⟩, .string ⟨#[]⟩, .int .i64 0, .string ⟨#[]⟩]) rfl); replace KA := (hb.block (W.heap.size) (by simp; omega)).trans ((keep_set (by omega)).trans ((keep_set (by omega)).trans ((keep_set (by omega)).trans (KA)))); replace KR := (hb.block (W.heap.size + 1) (by simp; omega)).trans ((keep_set (by omega)).trans ((keep_set (by omega)).trans ((keep_set (by omega)).trans (KR)))); have s3 := hb.size; simp only [World.size_setCell] at s3; replace hm := ok_below (K := kdAt) ((ok_set (K := kdAt) ((ok_set (K := kdAt) ((ok_set (K := kdAt) (hm) (by simp; omega))) (by simp; omega))) (by simp; omega))) hb; replace B : Below w.heap.size w w1 := Rw.next (by repeat (first | with_reducible exact B | refine bset ?_ (by simp <;> omega))) hb; replace D : Below W.heap.size W w1 := Rw.next (by repeat (first | with_reducible exact D | refine bset ?_ (by simp <;> omega))) hb; clear hb; have zo0 := blk_cell (u := .int .i64 x.k) KO 0 rfl; have zo1 := blk_cell (u := .string y.s) KO 1 rfl; have zo2 := blk_cell (u := .slice y.A.a y.A.Q.length y.A.c) KO 2 rfl; have zo3 := blk_cell (u := .int .i64 x.op) KO 3 rfl; have zo4 := blk_cell (u := .string ⟨#[]⟩) KO 4 rfl; have zo5 := blk_cell (u := .int .i64 0) KO 5 rfl; have zo6 := blk_cell (u := .string ⟨#[]⟩) KO 6 rfl; have zo7 := blk_cell (u := .string ⟨#[]⟩) KO 7 rfl; have zo8 := blk_cell (u := .int .i64 0) KO 8 rfl; have zo9 := blk_cell (u := .string ⟨#[]⟩) KO 9 rfl; have fo := free KO; have za0 := blk_cell (u := .int .i64 x.k) KA 0 rfl; have za1 := blk_cell (u := .string x.h.s) KA 1 rfl; have za2 := blk_cell (u := .slice x.h.A.a x.h.A.Q.length x.h.A.c) KA 2 rfl; have za3 := blk_cell (u := .int .i64 x.op) KA 3 rfl; have za4 := blk_cell (u := .string x.p.v) KA 4 rfl; have za5 := blk_cell (u := .int .i64 x.p.n) KA 5 rfl; have za6 := blk_cell (u := .string x.p.s) KA 6 rfl; have za7 := blk_cell (u := .string x.q.v) KA 7 rfl; have za8 := blk_cell (u := .int .i64 x.q.n) KA 8 rfl; have za9 := blk_cell (u := .string x.q.s) KA 9 rfl)
    | (clear t2; go_at_call 137; refine (toTm_any x.q w h.2.2 _ (by repeat (first | with_reducible exact B | refine bset ?_ (by simp <;> omega)))).mono ?_; rintro e w2 ⟨y2, rfl, hb, _, hq2⟩; clear zo0 zo1 zo2 zo3 zo4 zo5 zo6 zo7 zo8 zo9 fo za0 za1 za2 za3 za4 za5 za6 za7 za8 za9; replace KO := (hb.block (W.heap.size + 1 + 1) (by simp; omega)).trans (set_blk (set_blk (set_blk (KO) 4 (.string y1.v) (cs' := #[.int .i64 x.k, .string y.s, .slice y.A.a y.A.Q.length y.A.c, .int .i64 x.op, .string y1.v, .int .i64 0, .string ⟨#[]⟩, .string ⟨#[]⟩, .int .i64 0, .string ⟨#[]⟩]) rfl) 5 (.int .i64 y1.n) (cs' := #[.int .i64 x.k, .string y.s, .slice y.A.a y.A.Q.length y.A.c, .int .i64 x.op, .string y1.v, .int .i64 y1.n, .string ⟨#[]⟩, .string ⟨#[]⟩, .int .i64 0, .string ⟨#[]⟩]) rfl) 6 (.string y1.s) (cs' := #[.int .i64 x.k, .string y.s, .slice y.A.a y.A.Q.length y.A.c, .int .i64 x.op, .string y1.v, .int .i64 y1.n, .string y1.s, .string ⟨#[]⟩, .int .i64 0, .string ⟨#[]⟩]) rfl); replace KA := (hb.block (W.heap.size) (by simp; omega)).trans ((keep_set (by omega)).trans ((keep_set (by omega)).trans ((keep_set (by omega)).trans (KA)))); replace KR := (hb.block (W.heap.size + 1) (by simp; omega)).trans ((keep_set (by omega)).trans ((keep_set (by omega)).trans ((keep_set (by omega)).trans (KR)))); have s4 := hb.size; simp only [World.size_setCell] at s4; replace hm := ok_below (K := kdAt) ((ok_set (K := kdAt) ((ok_set (K := kdAt) ((ok_set (K := kdAt) (hm) (by simp; omega))) (by simp; omega))) (by simp; omega))) hb; replace B : Below w.heap.size w w2 := Rw.next (by repeat (first | with_reducible exact B | refine bset ?_ (by simp <;> omega))) hb; replace D : Below W.heap.size W w2 := Rw.next (by repeat (first | with_reducible exact D | refine bset ?_ (by simp <;> omega))) hb; clear hb; have zo0 := blk_cell (u := .int .i64 x.k) KO 0 rfl; have zo1 := blk_cell (u := .string y.s) KO 1 rfl; have zo2 := blk_cell (u := .slice y.A.a y.A.Q.length y.A.c) KO 2 rfl; have zo3 := blk_cell (u := .int .i64 x.op) KO 3 rfl; have zo4 := blk_cell (u := .string y1.v) KO 4 rfl; have zo5 := blk_cell (u := .int .i64 y1.n) KO 5 rfl; have zo6 := blk_cell (u := .string y1.s) KO 6 rfl; have zo7 := blk_cell (u := .string ⟨#[]⟩) KO 7 rfl; have zo8 := blk_cell (u := .int .i64 0) KO 8 rfl; have zo9 := blk_cell (u := .string ⟨#[]⟩) KO 9 rfl; have fo := free KO; have zr0 := blk_cell (u := .int .i64 0) KR 0 rfl; have zr1 := blk_cell (u := .string ⟨#[]⟩) KR 1 rfl; have zr2 := blk_cell (u := .slice none 0 0) KR 2 rfl; have zr3 := blk_cell (u := .int .i64 0) KR 3 rfl; have zr4 := blk_cell (u := .string ⟨#[]⟩) KR 4 rfl; have zr5 := blk_cell (u := .int .i64 0) KR 5 rfl; have zr6 := blk_cell (u := .string ⟨#[]⟩) KR 6 rfl; have zr7 := blk_cell (u := .string ⟨#[]⟩) KR 7 rfl; have zr8 := blk_cell (u := .int .i64 0) KR 8 rfl; have zr9 := blk_cell (u := .string ⟨#[]⟩) KR 9 rfl; have fr := free KR))
  refine bodyPost_ret (v := .agg #[.int .i64 x.k, .string y.s, .slice y.A.a y.A.Q.length y.A.c, .int .i64 x.op, .string y1.v, .int .i64 y1.n, .string y1.s, .string y2.v, .int .i64 y2.n, .string y2.s]) (by simp [results, Tryz.results108, go_sem, zr0, zr1, zr2, zr3, zr4, zr5, zr6, zr7, zr8, zr9]) rfl ⟨⟨x.k, y, x.op, y1, y2⟩, rfl, ?_, ?_, ?_⟩
  · repeat (first | with_reducible exact D | refine bset ?_ (by simp <;> omega))
  · obtain rfl : y1 = x.p := hq1
    obtain rfl : y2 = x.q := hq2
    refine ⟨Atm.Ok.mono (lo := W1.heap.size) ?_ (by omega), h.2.1, h.2.2⟩
    show kdAt.ok _ _ y
    repeat (first | with_reducible exact hm | refine ok_set ?_ (by simp; omega))
  · show ((x.k, y.l, x.op, y1, y2) : LtL) = (x.k, x.h.l, x.op, x.p, x.q)
    obtain rfl : y1 = x.p := hq1
    obtain rfl : y2 = x.q := hq2
    have hq' : y.l = x.h.l := hq
    rw [hq']
theorem infoLm : (Tryz.prog.info? 96).map (fun i => (i.zero, i.size, i.bytes)) = some (some (.agg #[.int .i64 0, .string ⟨#[]⟩, .slice none 0 0, .int .i64 0, .string ⟨#[]⟩, .int .i64 0, .string ⟨#[]⟩, .string ⟨#[]⟩, .int .i64 0, .string ⟨#[]⟩]), 10, 136) := by kernel_rfl
theorem makeLm (n : Nat) (hn : n ≤ 1048576) (w : World) :
    (Instr.makeSlice 53 (.int .i64 n) (.int .i64 n)).run Tryz.prog w = .ok (.slice (some ⟨w.heap.size, 0, none⟩) n n) (w.alloc (.cells (madeCells #[.int .i64 0, .string ⟨#[]⟩, .slice none 0 0, .int .i64 0, .string ⟨#[]⟩, .int .i64 0, .string ⟨#[]⟩, .string ⟨#[]⟩, .int .i64 0, .string ⟨#[]⟩] (n * 10)) 96)) := by
  obtain ⟨i, hi, hzz⟩ := Option.map_eq_some_iff.1 infoLm
  simp only [Prod.mk.injEq] at hzz
  obtain ⟨hz, hs, hb⟩ := hzz
  have hr := run_make (P := Tryz.prog) w 53 96 i _ Tryz.underlying53 hi hz .i64 .i64 n n (by omega) (Int.le_refl _) (by rw [hb]; omega) (by omega)
  simp only [Int.toNat_natCast, hs, Value.cells] at hr
  exact hr
theorem madeLm (w : World) (n : Nat) : (w.alloc (.cells (madeCells #[.int .i64 0, .string ⟨#[]⟩, .slice none 0 0, .int .i64 0, .string ⟨#[]⟩, .int .i64 0, .string ⟨#[]⟩, .string ⟨#[]⟩, .int .i64 0, .string ⟨#[]⟩] (n * 10)) 96)).rowIs w.heap.size 96 (n * 10) (flat kdLm ([] : List Lm)) :=
  ⟨_, at_new rfl, size_madeCells _ _, fun i hi => by
    have e : i % 10 = 0 ∨ i % 10 = 1 ∨ i % 10 = 2 ∨ i % 10 = 3 ∨ i % 10 = 4 ∨ i % 10 = 5 ∨ i % 10 = 6 ∨ i % 10 = 7 ∨ i % 10 = 8 ∨ i % 10 = 9 := by omega
    have e0 : flat kdLm ([] : List Lm) i = kdLm.val lm0 (i % 10) := rfl
    rw [e0]
    rcases e with e | e | e | e | e | e | e | e | e | e <;> rw [e] <;> simp [madeCells, hi, e] <;> rfl⟩

theorem flat_stepLm {w : World} {g n : Nat} {t : TypeId} {P : List Lm} {x : Lm} (h : w.rowIs g t n (flat kdLm P)) : (puts w g (P.length * 10) [.int .i64 x.k, .string x.h.s, .slice x.h.A.a x.h.A.Q.length x.h.A.c, .int .i64 x.op, .string x.p.v, .int .i64 x.p.n, .string x.p.s, .string x.q.v, .int .i64 x.q.n, .string x.q.s]).rowIs g t n (flat kdLm (P ++ [x])) :=
  flat_step (K := kdLm) h
set_option maxHeartbeats 2000000 in
theorem toLms_any (s : Sl Lm) (w : World) (h : Rd kdLm 0 w s) (hl : s.Q.length ≤ 1048576) (hc : ∀ x ∈ s.Q, Cop kdLm 108 (fun y : Lm => .agg #[.int .i64 y.k, .string y.h.s, .slice y.h.A.a y.h.A.Q.length y.h.A.c, .int .i64 y.op, .string y.p.v, .int .i64 y.p.n, .string y.p.s, .string y.q.v, .int .i64 y.q.n, .string y.q.s]) x w) : CopS kdLm 78 s w := by
  intro W hbW
  have h2 := h.keep (fun z _ hz => hbW.block z hz)
  obtain ⟨sa, sb, so, sc, sQ⟩ := s
  simp only at hl hc ⊢
  have HC : Hid (∀ i, i < sQ.length → ∀ x, x = sQ.getD i lm0 → Cop kdLm 108 (fun y : Lm => .agg #[.int .i64 y.k, .string y.h.s, .slice y.h.A.a y.h.A.Q.length y.h.A.c, .int .i64 y.op, .string y.p.v, .int .i64 y.p.n, .string y.p.s, .string y.q.v, .int .i64 y.q.n, .string y.q.s]) x w) := fun i hi x hx => hc x (by rw [hx]; exact mem_at (K := kdLm) hi)
  clear hc h
  obtain ⟨n, hn⟩ : ∃ n, n = sQ.length := ⟨_, rfl⟩
  have hmk := makeLm n (by omega)
  rw [← hn] at hl HC ⊢
  have HN : Hid (n = sQ.length) := hn
  clear hn
  go_enter Tryz.func78, Tryz.ntmps78
  go_wp2
  clear hmk
  go_loopw [4] (fun i wr => ∃ P : List Lm, P.length ≤ n ∧ i = .int .i64 (P.length : Int) ∧ Below W.heap.size W wr ∧ wr.rowIs W.heap.size 96 (n * 10) (flat kdLm P) ∧ (∀ x ∈ P, kdLm.ok (W.heap.size + 1) wr x) ∧ told kdLm P = (told kdLm sQ).take P.length) (fun i _ => n - (intOf i).toNat)
  case atStart => exact ⟨[], Nat.zero_le _, rfl, (Below.refl _ _).alloc (Nat.le_refl _) _, madeLm W n, fun r hr => by simp at hr, rfl⟩
  case round =>
    obtain ⟨P, hk, rfl, hbel, hrow, hcp, hsd⟩ := hrel
    have HS : Hid (told kdLm P = (told kdLm sQ).take P.length) := hsd
    clear hsd
    by_cases hlt : P.length < n
    · have hlQ : P.length < sQ.length := by have := HN.out; omega
      have hh := h2.head (by simp only; omega)
      have hkz : (P.length : Int) < (n : Int) := by omega
      obtain ⟨c0, c1, c2, c3, c4, c5, c6, c7, c8, c9⟩ := cellsLm (h2.below hbel) hlQ
      try simp only at hh c0 c1 c2 c3 c4 c5 c6 c7 c8 c9
      obtain rfl := hh
      have hlw := hrow.lt
      have HT : Hid (∀ r : Lm, kdLm.l r = kdLm.l (sQ.getD P.length lm0) → told kdLm (P ++ [r]) = (told kdLm sQ).take (P ++ [r]).length) := fun r hr => take_told HS.out hlQ hr
      have hCx := HC.out P.length hlt _ rfl
      clear h2 HC HS hlQ
      generalize sQ.getD P.length lm0 = x at c0 c1 c2 c3 c4 c5 c6 c7 c8 c9 HT hCx
      obtain ⟨k, hk1⟩ : ∃ k, k = P.length := ⟨_, rfl⟩
      have HK : Hid (k = P.length) := hk1
      have z0 : flat kdLm P (k * 10) = .int .i64 0 := by rw [hk1]; exact (flat_at P P.length 0 (by decide)).trans (by rw [getD_end]; rfl)
      have z1 : flat kdLm P (k * 10 + 1) = .string ⟨#[]⟩ := by rw [hk1]; exact (flat_at P P.length 1 (by decide)).trans (by rw [getD_end]; rfl)
      have z2 : flat kdLm P (k * 10 + 2) = .slice none 0 0 := by rw [hk1]; exact (flat_at P P.length 2 (by decide)).trans (by rw [getD_end]; rfl)
      have z3 : flat kdLm P (k * 10 + 3) = .int .i64 0 := by rw [hk1]; exact (flat_at P P.length 3 (by decide)).trans (by rw [getD_end]; rfl)
      have z4 : flat kdLm P (k * 10 + 4) = .string ⟨#[]⟩ := by rw [hk1]; exact (flat_at P P.length 4 (by decide)).trans (by rw [getD_end]; rfl)
      have z5 : flat kdLm P (k * 10 + 5) = .int .i64 0 := by rw [hk1]; exact (flat_at P P.length 5 (by decide)).trans (by rw [getD_end]; rfl)
      have z6 : flat kdLm P (k * 10 + 6) = .string ⟨#[]⟩ := by rw [hk1]; exact (flat_at P P.length 6 (by decide)).trans (by rw [getD_end]; rfl)
      have z7 : flat kdLm P (k * 10 + 7) = .string ⟨#[]⟩ := by rw [hk1]; exact (flat_at P P.length 7 (by decide)).trans (by rw [getD_end]; rfl)
      have z8 : flat kdLm P (k * 10 + 8) = .int .i64 0 := by rw [hk1]; exact (flat_at P P.length 8 (by decide)).trans (by rw [getD_end]; rfl)
      have z9 : flat kdLm P (k * 10 + 9) = .string ⟨#[]⟩ := by rw [hk1]; exact (flat_at P P.length 9 (by decide)).trans (by rw [getD_end]; rfl)
      rw [← hk1] at c0 c1 c2 c3 c4 c5 c6 c7 c8 c9 hkz hlt hk ⊢
      clear hk1
      go_wp2_with (go_at_call 108; refine (hCx _ (Rw.next hbW hbel)).mono ?_; rintro e w1 ⟨y, rfl, hb, hm, hy⟩; have HY : Hid (kdLm.l y = kdLm.l x) := hy; clear hy; replace hrow := hrow.of_block (hb.block _ hlw); replace hbel := Rw.next hbel hb; have hb1 := hb.size; replace hcp := fun x hx => ok_below (hcp x hx) hb; clear hb; have g0 := (hrow.cell (i := k * 10) (by omega)).trans (congrArg some z0); have f0 := hrow.frozen (k * 10); have g1 := (hrow.cell (i := k * 10 + 1) (by omega)).trans (congrArg some z1); have f1 := hrow.frozen (k * 10 + 1); have g2 := (hrow.cell (i := k * 10 + 2) (by omega)).trans (congrArg some z2); have f2 := hrow.frozen (k * 10 + 2); have g3 := (hrow.cell (i := k * 10 + 3) (by omega)).trans (congrArg some z3); have f3 := hrow.frozen (k * 10 + 3); have g4 := (hrow.cell (i := k * 10 + 4) (by omega)).trans (congrArg some z4); have f4 := hrow.frozen (k * 10 + 4); have g5 := (hrow.cell (i := k * 10 + 5) (by omega)).trans (congrArg some z5); have f5 := hrow.frozen (k * 10 + 5); have g6 := (hrow.cell (i := k * 10 + 6) (by omega)).trans (congrArg some z6); have f6 := hrow.frozen (k * 10 + 6); have g7 := (hrow.cell (i := k * 10 + 7) (by omega)).trans (congrArg some z7); have f7 := hrow.frozen (k * 10 + 7); have g8 := (hrow.cell (i := k * 10 + 8) (by omega)).trans (congrArg some z8); have f8 := hrow.frozen (k * 10 + 8); have g9 := (hrow.cell (i := k * 10 + 9) (by omega)).trans (congrArg some z9); have f9 := hrow.frozen (k * 10 + 9))
      go_roundw
      case rel =>
        have hk2 := HK.out
        subst hk2
        refine ⟨P ++ [y], by simp; omega, by simp only [List.length_append, List.length_singleton]; go_num, ?_, ?_, ?_, HT.out _ HY.out⟩
        · repeat (first | with_reducible exact hbel | refine bset ?_ (by simp <;> omega))
        · exact flat_stepLm (x := y) hrow
        · intro x hx
          rcases List.mem_append.1 hx with hx | hx
          · have hq := hcp x hx
            repeat (first | with_reducible exact hq | refine ok_set ?_ (by simp))
          · obtain rfl := List.mem_singleton.1 hx
            have hq := kdLm.mono hm (by omega : W.heap.size + 1 ≤ _)
            repeat (first | with_reducible exact hq | refine ok_set ?_ (by simp))
      case measure => have := HK.out; simp [intOf]; omega
    · have he : P.length = n := by omega
      have hkz : ¬ (P.length : Int) < (n : Int) := by omega
      clear h2
      go_wp2
      go_ret
      have hs1 : told kdLm P = told kdLm sQ := by rw [HS.out, he, HN.out, ← told_len sQ, List.take_length]
      refine ⟨⟨some ⟨W.heap.size, 0, none⟩, W.heap.size, 0, n, P⟩, by show Ending.returned (.slice (some ⟨W.heap.size, 0, none⟩) n n) = .returned (.slice (some ⟨W.heap.size, 0, none⟩) P.length n); rw [he], hbel, ?_, hs1⟩
      refine rd_of_row (t := 96) ?_ (Nat.le_refl _) (fun x hx => kdLm.mono (hcp x hx) (by omega)) (by unfold maxLen; omega) (by omega) rfl
      show wr.rowIs _ _ (P.length * 10) _
      rw [he]; exact hrow

set_option maxHeartbeats 2000000 in
theorem toRm_any (x : Rm) (w : World) (h : x.Ok 0 w) (hs : x.wt ≤ 1048576) : Cop kdRm 45 (fun x => .agg #[.int .i64 x.k, .string x.h.s, .slice x.h.A.a x.h.A.Q.length x.h.A.c, .slice x.B.a x.B.Q.length x.B.c]) x w := by
  intro W hbW
  obtain ⟨W1, hW1⟩ : ∃ W1, W1 = ((W.alloc (.cells #[.int .i64 x.k, .string x.h.s, .slice x.h.A.a x.h.A.Q.length x.h.A.c, .slice x.B.a x.B.Q.length x.B.c] 84)).alloc (.cells #[.int .i64 0, .string ⟨#[]⟩, .slice none 0 0, .slice none 0 0] 55)).alloc (.cells #[.int .i64 x.k, .string ⟨#[]⟩, .slice none 0 0, .slice none 0 0] 55) := ⟨_, rfl⟩
  have D : Below W.heap.size W W1 := by subst hW1; exact Rw.next (Rw.next (below_alloc1 _ _) (below_alloc1 _ _)) (below_alloc1 _ _)
  have B := Rw.next hbW D
  have KA : W1.heap[W.heap.size]? = some (.cells #[.int .i64 x.k, .string x.h.s, .slice x.h.A.a x.h.A.Q.length x.h.A.c, .slice x.B.a x.B.Q.length x.B.c] 84 (0, 0)) := by subst hW1; rw [at_old (by simp; omega), at_old (by simp), at_new rfl]
  have KR : W1.heap[W.heap.size + 1]? = some (.cells #[.int .i64 0, .string ⟨#[]⟩, .slice none 0 0, .slice none 0 0] 55 (0, 0)) := by subst hW1; rw [at_old (by simp), at_new (by simp)]
  have KO : W1.heap[W.heap.size + 1 + 1]? = some (.cells #[.int .i64 x.k, .string ⟨#[]⟩, .slice none 0 0, .slice none 0 0] 55 (0, 0)) := by subst hW1; exact at_new (by simp)
  have s1 := blk_lt KO
  have t0 : True := trivial
  have t1 : True := trivial
  have s0 := hbW.size
  clear hbW
  go_enter Tryz.func45, Tryz.ntmps45
  go_wp2_with (first
    | (clear t0; go_at_call 77; rw [← hW1]; clear hW1; refine (toAt_any x.h w h.1 (by unfold Rm.wt at hs; omega) _ B).mono ?_; rintro e w0 ⟨y, rfl, hb, hm, hq⟩; replace KO := (hb.block (W.heap.size + 1 + 1) (blk_lt KO)).trans (KO); replace KA := (hb.block (W.heap.size) (blk_lt KA)).trans (KA); replace KR := (hb.block (W.heap.size + 1) (blk_lt KR)).trans (KR); have s2 := hb.size; replace B := Rw.next B hb; replace D := Rw.next D hb; clear hb; have zo0 := blk_cell (u := .int .i64 x.k) KO 0 rfl; have zo1 := blk_cell (u := .string ⟨#[]⟩) KO 1 rfl; have zo2 := blk_cell (u := .slice none 0 0) KO 2 rfl; have zo3 := blk_cell (u := .slice none 0 0) KO 3 rfl; have fo := free KO; have za0 := blk_cell (u := .int .i64 x.k) KA 0 rfl; have za1 := blk_cell (u := .string x.h.s) KA 1 rfl; have za2 := blk_cell (u := .slice x.h.A.a x.h.A.Q.length x.h.A.c) KA 2 rfl; have za3 := blk_cell (u := .slice x.B.a x.B.Q.length x.B.c) KA 3 rfl)
    | (clear t1; go_at_call 78; refine (toLms_any x.B w h.2 (len_wt (K := kdLm) (by unfold Rm.wt at hs; omega)) (fun z hz => toLm_any z w (mem_ok h.2 hz) (mem_wt (K := kdLm) (by unfold Rm.wt at hs; omega) hz)) _ (by repeat (first | with_reducible exact B | refine bset ?_ (by simp <;> omega)))).mono ?_; rintro e w1 ⟨s, rfl, hb, hm2, hq2⟩; clear zo0 zo1 zo2 zo3 fo za0 za1 za2 za3; replace KO := (hb.block (W.heap.size + 1 + 1) (by simp; omega)).trans (set_blk (set_blk (KO) 1 (.string y.s) (cs' := #[.int .i64 x.k, .string y.s, .slice none 0 0, .slice none 0 0]) rfl) 2 (.slice y.A.a y.A.Q.length y.A.c) (cs' := #[.int .i64 x.k, .string y.s, .slice y.A.a y.A.Q.length y.A.c, .slice none 0 0]) rfl); replace KA := (hb.block (W.heap.size) (by simp; omega)).trans ((keep_set (by omega)).trans ((keep_set (by omega)).trans (KA))); replace KR := (hb.block (W.heap.size + 1) (by simp; omega)).trans ((keep_set (by omega)).trans ((keep_set (by omega)).trans (KR))); have s3 := hb.size; simp only [World.size_setCell] at s3; replace hm := ok_below (K := kdAt) ((ok_set (K := kdAt) ((ok_set (K := kdAt) (hm) (by simp; omega))) (by simp; omega))) hb; replace B : Below w.heap.size w w1 := Rw.next (by repeat (first | with_reducible exact B | refine bset ?_ (by simp <;> omega))) hb; replace D : Below W.heap.size W w1 := Rw.next (by repeat (first | with_reducible exact D | refine bset ?_ (by simp <;> omega))) hb; simp only [World.size_setCell] at hm2; replace hm2 := Rd.mono (hm2) (by omega : W1.heap.size ≤ _); clear hb; have zo0 := blk_cell (u := .int .i64 x.k) KO 0 rfl; have zo1 := blk_cell (u := .string y.s) KO 1 rfl; have zo2 := blk_cell (u := .slice y.A.a y.A.Q.length y.A.c) KO 2 rfl; have zo3 := blk_cell (u := .slice none 0 0) KO 3 rfl; have fo := free KO; have zr0 := blk_cell (u := .int .i64 0) KR 0 rfl; have zr1 := blk_cell (u := .string ⟨#[]⟩) KR 1 rfl; have zr2 := blk_cell (u := .slice none 0 0) KR 2 rfl; have zr3 := blk_cell (u := .slice none 0 0) KR 3 rfl; have fr := free KR))
  refine bodyPost_ret (v := .agg #[.int .i64 x.k, .string y.s, .slice y.A.a y.A.Q.length y.A.c, .slice s.a s.Q.length s.c]) (by simp [results, Tryz.results45, go_sem, zr0, zr1, zr2, zr3]) rfl ⟨⟨x.k, y, s⟩, rfl, ?_, ?_, ?_⟩
  · repeat (first | with_reducible exact D | refine bset ?_ (by simp <;> omega))
  · refine ⟨Atm.Ok.mono (lo := W1.heap.size) ?_ (by omega), Rd.mono (lo := W1.heap.size) ?_ (by omega)⟩
    · show kdAt.ok _ _ y
      repeat (first | with_reducible exact hm | refine ok_set ?_ (by simp; omega))
    · repeat (first | with_reducible exact hm2 | refine Rd.set ?_ (by simp; omega))
  · show ((x.k, y.l, told kdLm s.Q) : RuL) = (x.k, x.h.l, told kdLm x.B.Q)
    have hq' : y.l = x.h.l := hq
    rw [hq', hq2]
theorem infoRm : (Tryz.prog.info? 55).map (fun i => (i.zero, i.size, i.bytes)) = some (some (.agg #[.int .i64 0, .string ⟨#[]⟩, .slice none 0 0, .slice none 0 0]), 4, 72) := by kernel_rfl
theorem makeRm (n : Nat) (hn : n ≤ 1048576) (w : World) :
    (Instr.makeSlice 30 (.int .i64 n) (.int .i64 n)).run Tryz.prog w = .ok (.slice (some ⟨w.heap.size, 0, none⟩) n n) (w.alloc (.cells (madeCells #[.int .i64 0, .string ⟨#[]⟩, .slice none 0 0, .slice none 0 0] (n * 4)) 55)) := by
  obtain ⟨i, hi, hzz⟩ := Option.map_eq_some_iff.1 infoRm
  simp only [Prod.mk.injEq] at hzz
  obtain ⟨hz, hs, hb⟩ := hzz
  have hr := run_make (P := Tryz.prog) w 30 55 i _ Tryz.underlying30 hi hz .i64 .i64 n n (by omega) (Int.le_refl _) (by rw [hb]; omega) (by omega)
  simp only [Int.toNat_natCast, hs, Value.cells] at hr
  exact hr
theorem madeRm (w : World) (n : Nat) : (w.alloc (.cells (madeCells #[.int .i64 0, .string ⟨#[]⟩, .slice none 0 0, .slice none 0 0] (n * 4)) 55)).rowIs w.heap.size 55 (n * 4) (flat kdRm ([] : List Rm)) :=
  ⟨_, at_new rfl, size_madeCells _ _, fun i hi => by
    have e : i % 4 = 0 ∨ i % 4 = 1 ∨ i % 4 = 2 ∨ i % 4 = 3 := by omega
    have e0 : flat kdRm ([] : List Rm) i = kdRm.val rm0 (i % 4) := rfl
    rw [e0]
    rcases e with e | e | e | e <;> rw [e] <;> simp [madeCells, hi, e] <;> rfl⟩

theorem flat_stepRm {w : World} {g n : Nat} {t : TypeId} {P : List Rm} {x : Rm} (h : w.rowIs g t n (flat kdRm P)) : (puts w g (P.length * 4) [.int .i64 x.k, .string x.h.s, .slice x.h.A.a x.h.A.Q.length x.h.A.c, .slice x.B.a x.B.Q.length x.B.c]).rowIs g t n (flat kdRm (P ++ [x])) :=
  flat_step (K := kdRm) h
set_option maxHeartbeats 2000000 in
theorem toRms_any (s : Sl Rm) (w : World) (h : Rd kdRm 0 w s) (hl : s.Q.length ≤ 1048576) (hc : ∀ x ∈ s.Q, Cop kdRm 45 (fun y : Rm => .agg #[.int .i64 y.k, .string y.h.s, .slice y.h.A.a y.h.A.Q.length y.h.A.c, .slice y.B.a y.B.Q.length y.B.c]) x w) : CopS kdRm 21 s w := by
  intro W hbW
  have h2 := h.keep (fun z _ hz => hbW.block z hz)
  obtain ⟨sa, sb, so, sc, sQ⟩ := s
  simp only at hl hc ⊢
  have HC : Hid (∀ i, i < sQ.length → ∀ x, x = sQ.getD i rm0 → Cop kdRm 45 (fun y : Rm => .agg #[.int .i64 y.k, .string y.h.s, .slice y.h.A.a y.h.A.Q.length y.h.A.c, .slice y.B.a y.B.Q.length y.B.c]) x w) := fun i hi x hx => hc x (by rw [hx]; exact mem_at (K := kdRm) hi)
  clear hc h
  obtain ⟨n, hn⟩ : ∃ n, n = sQ.length := ⟨_, rfl⟩
  have hmk := makeRm n (by omega)
  rw [← hn] at hl HC ⊢
  have HN : Hid (n = sQ.length) := hn
  clear hn
  go_enter Tryz.func21, Tryz.ntmps21
  go_wp2
  clear hmk
  go_loopw [4] (fun i wr => ∃ P : List Rm, P.length ≤ n ∧ i = .int .i64 (P.length : Int) ∧ Below W.heap.size W wr ∧ wr.rowIs W.heap.size 55 (n * 4) (flat kdRm P) ∧ (∀ x ∈ P, kdRm.ok (W.heap.size + 1) wr x) ∧ told kdRm P = (told kdRm sQ).take P.length) (fun i _ => n - (intOf i).toNat)
  case atStart => exact ⟨[], Nat.zero_le _, rfl, (Below.refl _ _).alloc (Nat.le_refl _) _, madeRm W n, fun r hr => by simp at hr, rfl⟩
  case round =>
    obtain ⟨P, hk, rfl, hbel, hrow, hcp, hsd⟩ := hrel
    have HS : Hid (told kdRm P = (told kdRm sQ).take P.length) := hsd
    clear hsd
    by_cases hlt : P.length < n
    · have hlQ : P.length < sQ.length := by have := HN.out; omega
      have hh := h2.head (by simp only; omega)
      have hkz : (P.length : Int) < (n : Int) := by omega
      obtain ⟨c0, c1, c2, c3⟩ := cellsRm (h2.below hbel) hlQ
      try simp only at hh c0 c1 c2 c3
      obtain rfl := hh
      have hlw := hrow.lt
      have HT : Hid (∀ r : Rm, kdRm.l r = kdRm.l (sQ.getD P.length rm0) → told kdRm (P ++ [r]) = (told kdRm sQ).take (P ++ [r]).length) := fun r hr => take_told HS.out hlQ hr
      have hCx := HC.out P.length hlt _ rfl
      clear h2 HC HS hlQ
      generalize sQ.getD P.length rm0 = x at c0 c1 c2 c3 HT hCx
      obtain ⟨k, hk1⟩ : ∃ k, k = P.length := ⟨_, rfl⟩
      have HK : Hid (k = P.length) := hk1
      have z0 : flat kdRm P (k * 4) = .int .i64 0 := by rw [hk1]; exact (flat_at P P.length 0 (by decide)).trans (by rw [getD_end]; rfl)
      have z1 : flat kdRm P (k * 4 + 1) = .string ⟨#[]⟩ := by rw [hk1]; exact (flat_at P P.length 1 (by decide)).trans (by rw [getD_end]; rfl)
      have z2 : flat kdRm P (k * 4 + 2) = .slice none 0 0 := by rw [hk1]; exact (flat_at P P.length 2 (by decide)).trans (by rw [getD_end]; rfl)
      have z3 : flat kdRm P (k * 4 + 3) = .slice none 0 0 := by rw [hk1]; exact (flat_at P P.length 3 (by decide)).trans (by rw [getD_end]; rfl)
      rw [← hk1] at c0 c1 c2 c3 hkz hlt hk ⊢
      clear hk1
      go_wp2_with (go_at_call 45; refine (hCx _ (Rw.next hbW hbel)).mono ?_; rintro e w1 ⟨y, rfl, hb, hm, hy⟩; have HY : Hid (kdRm.l y = kdRm.l x) := hy; clear hy; replace hrow := hrow.of_block (hb.block _ hlw); replace hbel := Rw.next hbel hb; have hb1 := hb.size; replace hcp := fun x hx => ok_below (hcp x hx) hb; clear hb; have g0 := (hrow.cell (i := k * 4) (by omega)).trans (congrArg some z0); have f0 := hrow.frozen (k * 4); have g1 := (hrow.cell (i := k * 4 + 1) (by omega)).trans (congrArg some z1); have f1 := hrow.frozen (k * 4 + 1); have g2 := (hrow.cell (i := k * 4 + 2) (by omega)).trans (congrArg some z2); have f2 := hrow.frozen (k * 4 + 2); have g3 := (hrow.cell (i := k * 4 + 3) (by omega)).trans (congrArg some z3); have f3 := hrow.frozen (k * 4 + 3))
      go_roundw
      case rel =>
        have hk2 := HK.out
        subst hk2
        refine ⟨P ++ [y], by simp; omega, by simp only [List.length_append, List.length_singleton]; go_num, ?_, ?_, ?_, HT.out _ HY.out⟩
        · repeat (first | with_reducible exact hbel | refine bset ?_ (by simp <;> omega))
        · exact flat_stepRm (x := y) hrow
        · intro x hx
          rcases List.mem_append.1 hx with hx | hx
          · have hq := hcp x hx
            repeat (first | with_reducible exact hq | refine ok_set ?_ (by simp))
          · obtain rfl := List.mem_singleton.1 hx
            have hq := kdRm.mono hm (by omega : W.heap.size + 1 ≤ _)
            repeat (first | with_reducible exact hq | refine ok_set ?_ (by simp))
      case measure => have := HK.out; simp [intOf]; omega
    · have he : P.length = n := by omega
      have hkz : ¬ (P.length : Int) < (n : Int) := by omega
      clear h2
      go_wp2
      go_ret
      have hs1 : told kdRm P = told kdRm sQ := by rw [HS.out, he, HN.out, ← told_len sQ, List.take_length]
      refine ⟨⟨some ⟨W.heap.size, 0, none⟩, W.heap.size, 0, n, P⟩, by show Ending.returned (.slice (some ⟨W.heap.size, 0, none⟩) n n) = .returned (.slice (some ⟨W.heap.size, 0, none⟩) P.length n); rw [he], hbel, ?_, hs1⟩
      refine rd_of_row (t := 55) ?_ (Nat.le_refl _) (fun x hx => kdRm.mono (hcp x hx) (by omega)) (by unfold maxLen; omega) (by omega) rfl
      show wr.rowIs _ _ (P.length * 4) _
      rw [he]; exact hrow

set_option maxHeartbeats 2000000 in
theorem toPg_any (x : Pg) (w : World) (h : x.Ok 0 w) (hs : x.wt ≤ 1048576) : ∀ W : World, Below w.heap.size w W → Calls Tryz.prog 7 #[.agg #[.slice x.D.a x.D.Q.length x.D.c, .slice x.R.a x.R.Q.length x.R.c]] W fun e w' => ∃ y : Pg, e = .returned (.agg #[.slice y.D.a y.D.Q.length y.D.c, .slice y.R.a y.R.Q.length y.R.c]) ∧ Below W.heap.size W w' ∧ y.Ok W.heap.size w' ∧ y.l = x.l := by
  intro W hbW
  obtain ⟨W1, hW1⟩ : ∃ W1, W1 = ((W.alloc (.cells #[.slice x.D.a x.D.Q.length x.D.c, .slice x.R.a x.R.Q.length x.R.c] 25)).alloc (.cells #[.slice none 0 0, .slice none 0 0] 32)).alloc (.cells #[.slice none 0 0, .slice none 0 0] 32) := ⟨_, rfl⟩
  have D : Below W.heap.size W W1 := by subst hW1; exact Rw.next (Rw.next (below_alloc1 _ _) (below_alloc1 _ _)) (below_alloc1 _ _)
  have B := Rw.next hbW D
  have KA : W1.heap[W.heap.size]? = some (.cells #[.slice x.D.a x.D.Q.length x.D.c, .slice x.R.a x.R.Q.length x.R.c] 25 (0, 0)) := by subst hW1; rw [at_old (by simp; omega), at_old (by simp), at_new rfl]
  have KR : W1.heap[W.heap.size + 1]? = some (.cells #[.slice none 0 0, .slice none 0 0] 32 (0, 0)) := by subst hW1; rw [at_old (by simp), at_new (by simp)]
  have KO : W1.heap[W.heap.size + 1 + 1]? = some (.cells #[.slice none 0 0, .slice none 0 0] 32 (0, 0)) := by subst hW1; exact at_new (by simp)
  have s1 := blk_lt KO
  have t0 : True := trivial
  have t1 : True := trivial
  have s0 := hbW.size
  clear hbW
  go_enter Tryz.func7, Tryz.ntmps7
  go_wp2_with (first
    | (clear t0; go_at_call 20; rw [← hW1]; clear hW1; refine (toDcs_any x.D w h.1 (len_wt (K := kdDc) (by unfold Pg.wt at hs; omega)) (fun z hz => toDc_any z w (mem_ok h.1 hz)) _ B).mono ?_; rintro e w0 ⟨s, rfl, hb, hm, hq⟩; replace KO := (hb.block (W.heap.size + 1 + 1) (blk_lt KO)).trans (KO); replace KA := (hb.block (W.heap.size) (blk_lt KA)).trans (KA); replace KR := (hb.block (W.heap.size + 1) (blk_lt KR)).trans (KR); have s2 := hb.size; replace B := Rw.next B hb; replace D := Rw.next D hb; clear hb; have zo0 := blk_cell (u := .slice none 0 0) KO 0 rfl; have zo1 := blk_cell (u := .slice none 0 0) KO 1 rfl; have fo := free KO; have za0 := blk_cell (u := .slice x.D.a x.D.Q.length x.D.c) KA 0 rfl; have za1 := blk_cell (u := .slice x.R.a x.R.Q.length x.R.c) KA 1 rfl)
    | (clear t1; go_at_call 21; refine (toRms_any x.R w h.2 (len_wt (K := kdRm) (by unfold Pg.wt at hs; omega)) (fun z hz => toRm_any z w (mem_ok h.2 hz) (mem_wt (K := kdRm) (by unfold Pg.wt at hs; omega) hz)) _ (by repeat (first | with_reducible exact B | refine bset ?_ (by simp <;> omega)))).mono ?_; rintro e w1 ⟨s2, rfl, hb, hm2, hq2⟩; clear zo0 zo1 fo za0 za1; replace KO := (hb.block (W.heap.size + 1 + 1) (by simp; omega)).trans (set_blk (KO) 0 (.slice s.a s.Q.length s.c) (cs' := #[.slice s.a s.Q.length s.c, .slice none 0 0]) rfl); replace KA := (hb.block (W.heap.size) (by simp; omega)).trans ((keep_set (by omega)).trans (KA)); replace KR := (hb.block (W.heap.size + 1) (by simp; omega)).trans ((keep_set (by omega)).trans (KR)); have s3 := hb.size; simp only [World.size_setCell] at s3; replace hm := Rd.below ((Rd.set (hm) (by simp; omega))) hb; replace B : Below w.heap.size w w1 := Rw.next (by repeat (first | with_reducible exact B | refine bset ?_ (by simp <;> omega))) hb; replace D : Below W.heap.size W w1 := Rw.next (by repeat (first | with_reducible exact D | refine bset ?_ (by simp <;> omega))) hb; simp only [World.size_setCell] at hm2; replace hm2 := Rd.mono (hm2) (by omega : W1.heap.size ≤ _); clear hb; have zo0 := blk_cell (u := .slice s.a s.Q.length s.c) KO 0 rfl; have zo1 := blk_cell (u := .slice none 0 0) KO 1 rfl; have fo := free KO; have zr0 := blk_cell (u := .slice none 0 0) KR 0 rfl; have zr1 := blk_cell (u := .slice none 0 0) KR 1 rfl; have fr := free KR))
  refine bodyPost_ret (v := .agg #[.slice s.a s.Q.length s.c, .slice s2.a s2.Q.length s2.c]) (by simp [results, Tryz.results7, go_sem, zr0, zr1]) rfl ⟨⟨s, s2⟩, rfl, ?_, ?_, ?_⟩
  · repeat (first | with_reducible exact D | refine bset ?_ (by simp <;> omega))
  · refine ⟨Rd.mono (lo := W1.heap.size) ?_ (by omega), Rd.mono (lo := W1.heap.size) ?_ (by omega)⟩
    · repeat (first | with_reducible exact hm | refine Rd.set ?_ (by simp; omega))
    · repeat (first | with_reducible exact hm2 | refine Rd.set ?_ (by simp; omega))
  · show ((s.Q, told kdRm s2.Q) : PgL) = (x.D.Q, told kdRm x.R.Q)
    rw [hq2, ← told_dc s.Q, hq, told_dc]

end Go.Proofs.YtljlgjgfmgilaaaGreat.Pm

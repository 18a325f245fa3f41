/-
  Columns of a row; the iterator over a slice of rows.
-/
import Derived.Test.YtfiebakgphcnbaaIi
namespace Go.Proofs.Ytfiebakgphcnbaa.Rl
set_option maxRecDepth 8000
set_option linter.unusedSimpArgs false
set_option linter.unusedVariables false
open Go Go.RowKit Go.Shelf
open Num Word Pl Rp
open Vl (ordRow rowB V2 valB z2)
attribute [local go_sem] Oper.semAt_some

/-- The columns of a row. -/
def colL (cols : List Int) (l : RowL) : RowL := cols.map fun k => l.getD k.toNat z2
theorem colL_len (cols : List Int) (l : RowL) : (colL cols l).length = cols.length := by simp [colL]
theorem colL_at {cols : List Int} {l : RowL} {i : Nat} (h : i < cols.length) : (colL cols l).getD i z2 = l.getD (cols.getD i 0).toNat z2 := by
  simp [colL, List.getD, h]

set_option maxHeartbeats 4000000 in
theorem colsOf_any (xa : Option Addr) (xb xo xc : Nat) (xl : RowL) (a : Option Addr) (b off cap : Nat) (cols : List Int) (w : World) (hx : Vl.Rd w xa xb xo xl) (h : Hr.Rd w a b off cols) (hin : ∀ i, i < cols.length → 0 ≤ cols.getD i 0 ∧ (cols.getD i 0).toNat < xl.length) (h6 : cols.length ≤ 6) :
    Calls Try.prog 77 #[.agg #[.slice xa xl.length xc], .slice a cols.length cap] w fun e w' => ∃ g, e = .returned (.agg #[.slice (some ⟨g, 0, none⟩) cols.length cols.length]) ∧ w.heap.size ≤ g ∧ Below w.heap.size w w' ∧ Vl.Mine w' g (colL cols xl) := by
  obtain ⟨hh, hc, hs⟩ := h
  obtain ⟨hxh, hxc, hxs, hxz⟩ := hx
  obtain ⟨l, hl⟩ : ∃ l, l = colL cols xl := ⟨_, rfl⟩
  have hll : l.length = cols.length := by rw [hl, colL_len]
  have hla : ∀ i, i < cols.length → l.getD i z2 = xl.getD (cols.getD i 0).toNat z2 := fun i hi => by rw [hl, colL_at hi]
  rw [← hl]
  clear hl
  obtain ⟨n, hn⟩ : ∃ n, n = cols.length := ⟨_, rfl⟩
  have hmk := Vl.make2 n (by omega)
  rw [← hn] at hh hc hs hin h6 hll hla ⊢
  have HLN : Hid (l.length = n) := hll
  have HLA : Hid (∀ i, i < n → l.getD i z2 = xl.getD (cols.getD i 0).toNat z2) := hla
  clear hn hll hla
  obtain ⟨W3, hW3⟩ : ∃ W3, W3 = (((w.alloc (.cells #[.slice xa xl.length xc] 56)).alloc (.cells #[.slice none 0 0] 56)).alloc (.cells (madeCells #[.int .i64 0, .string ⟨#[]⟩] (n * 2)) 35)).alloc (.cells #[.slice (some ⟨w.heap.size + 1 + 1, 0, none⟩) n n] 56) := ⟨_, rfl⟩
  have k0 : W3.heap[w.heap.size]? = some (.cells #[.slice xa xl.length xc] 56 (0, 0)) := by subst hW3; rw [at_old (by simp <;> omega), at_old (by simp <;> omega), at_old (by simp), at_new rfl]
  have k1 : W3.heap[w.heap.size + 1]? = some (.cells #[.slice none 0 0] 56 (0, 0)) := by subst hW3; rw [at_old (by simp <;> omega), at_old (by simp), at_new (by simp)]
  have kO : W3.heap[w.heap.size + 1 + 1 + 1]? = some (.cells #[.slice (some ⟨w.heap.size + 1 + 1, 0, none⟩) n n] 56 (0, 0)) := by subst hW3; exact at_new (by simp)
  have rw0 : W3.rowIs (w.heap.size + 1 + 1) 35 (n * 2) (Vl.part l 0) := by
    have := Vl.made2 ((w.alloc (.cells #[.slice xa xl.length xc] 56)).alloc (.cells #[.slice none 0 0] 56)) n l
    simp only [World.size_alloc] at this
    subst hW3
    exact this.of_block (at_old (by simp))
  have B3 : Below w.heap.size w W3 := by subst hW3; exact Rw.next (Rw.next (below_alloc2 _ _ _) (below_alloc1 _ _)) (below_alloc1 _ _)
  go_enter Try.func77, Try.ntmps77
  go_wp2
  rw [← hW3]
  clear hW3 hmk
  go_loopw [14] (fun i wr => ∃ k : Nat, k ≤ n ∧ i = .int .i64 k ∧ Below w.heap.size w wr ∧ wr.rowIs (w.heap.size + 1 + 1) 35 (n * 2) (Vl.part l k) ∧ wr.heap[w.heap.size]? = some (.cells #[.slice xa xl.length xc] 56 (0, 0)) ∧ wr.heap[w.heap.size + 1]? = some (.cells #[.slice none 0 0] 56 (0, 0)) ∧ wr.heap[w.heap.size + 1 + 1 + 1]? = some (.cells #[.slice (some ⟨w.heap.size + 1 + 1, 0, none⟩) n n] 56 (0, 0))) (fun i _ => n - (intOf i).toNat)
  case atStart => exact ⟨0, Nat.zero_le _, rfl, B3, rw0, k0, k1, kO⟩
  case round =>
    clear B3 rw0 k0 k1 kO
    obtain ⟨k, hk, rfl, B3, hrow, k0, k1, kO⟩ := hrel
    by_cases hlt : k < n
    · obtain rfl := hh (by omega)
      have hkz : (k : Int) < (n : Int) := by omega
      have c0 := (B3.cell (World.block_lt_of_cell? _ _ (hc k hlt))).trans (hc k hlt)
      obtain ⟨j0, jl⟩ := hin k hlt
      have hLk := HLA.out k hlt
      have hps : ((wr.setCell ⟨w.heap.size + 1 + 1, k * 2, none⟩ (.int .i64 (l.getD k z2).1)).setCell ⟨w.heap.size + 1 + 1, k * 2 + 1, none⟩ (.string (l.getD k z2).2)).rowIs (w.heap.size + 1 + 1) 35 (n * 2) (Vl.part l (k + 1)) := Vl.part_step hrow
      rw [hLk] at hps
      clear hLk
      generalize cols.getD k 0 = q at c0 j0 jl hps
      obtain ⟨j, rfl⟩ := Int.eq_ofNat_of_zero_le j0
      simp only [Int.toNat_natCast] at jl hps
      obtain rfl := hxh (by omega)
      have hjz : (j : Int) < (xl.length : Int) := by omega
      have hxj := hxc j jl
      obtain ⟨e0, e1⟩ := hxj.of B3 hxj.lt
      have hne : xb ≠ w.heap.size + 1 + 1 := by have := hxj.lt; omega
      have hne2 : w.heap.size + 1 + 1 ≠ xb := fun e => hne e.symm
      have p0 := one k0
      have pO := one kO
      have g0 := (hrow.cell (i := k * 2) (by omega)).trans (congrArg some Vl.part_at.1)
      have g1 := (hrow.cell (i := k * 2 + 1) (by omega)).trans (congrArg some Vl.part_at.2)
      have f0 := hrow.frozen (k * 2)
      have f1 := hrow.frozen (k * 2 + 1)
      have HPS : Hid (((wr.setCell ⟨w.heap.size + 1 + 1, k * 2, none⟩ (.int .i64 (xl.getD j z2).1)).setCell ⟨w.heap.size + 1 + 1, k * 2 + 1, none⟩ (.string (xl.getD j z2).2)).rowIs (w.heap.size + 1 + 1) 35 (n * 2) (Vl.part l (k + 1))) := hps
      clear hxc hc hh hxh hin hps
      generalize xl.getD j z2 = y at e0 e1 HPS
      obtain ⟨y0, y1⟩ := y
      simp only at e0 e1
      go_wp2
      go_region
      go_wp2
      go_roundw
      case rel => exact ⟨k + 1, by omega, by go_num, (B3.drew.setCell (by simp; omega) _).setCell (by simp; omega) _, HPS.out, (Below.heap_setCell _ _ _ _ (by simp only; omega)).trans ((Below.heap_setCell _ _ _ _ (by simp only; omega)).trans k0), (Below.heap_setCell _ _ _ _ (by simp only; omega)).trans ((Below.heap_setCell _ _ _ _ (by simp only; omega)).trans k1), (Below.heap_setCell _ _ _ _ (by simp only; omega)).trans ((Below.heap_setCell _ _ _ _ (by simp only; omega)).trans kO)⟩
      case measure => simp [intOf]; omega
    · have he : k = n := by omega
      subst he
      have pO := one kO
      have p1 := one k1
      have f1 := Vl.free k1
      go_wp2
      have kk := one (one_setB (x := .slice (some ⟨w.heap.size + 1 + 1, 0, none⟩) k k) k1)
      have hm : Vl.Mine (wr.setCell ⟨w.heap.size + 1, 0, none⟩ (.slice (some ⟨w.heap.size + 1 + 1, 0, none⟩) k k)) (w.heap.size + 1 + 1) l := by
        have hLN := HLN.out
        refine ⟨?_, by rw [hLN]; exact hs, fun i hi => by rw [HLA.out i (by omega)]; exact hxz _ (hin i (by omega)).2⟩
        rw [hLN]
        exact (hrow.congr (fun i hi => by simp [Vl.part, hi])).of_block (Below.heap_setCell _ _ _ _ (by simp only; omega))
      exact bodyPost_ret (v := .agg #[.slice (some ⟨w.heap.size + 1 + 1, 0, none⟩) k k]) (by simp [results, Try.results77, go_sem, kk]) rfl ⟨_, rfl, by omega, Vl.bset B3 (by simp only; omega), hm⟩

theorem values_any (a : Option Addr) (n c : Nat) (w : World) :
    Calls Try.prog 42 #[.slice a n c] w fun e w' => ∃ p, e = .returned (.func (.func 78) #[] #[.pointer (some ⟨p, 0, none⟩)]) ∧ w'.heap[p]? = some (.cells #[.slice a n c] 29 (0, 0)) ∧ Below w.heap.size w w' := by
  go_enter Try.func42, Try.ntmps42
  go_wp2
  go_ret
  exact ⟨w.heap.size, rfl, at_new rfl, below_alloc1 _ _⟩

set_option maxHeartbeats 4000000 in
theorem values1_any (a : Option Addr) (b off cap : Nat) (Q : List Rm) (p : Nat) (w0 : World) (h : Rd w0 a b off Q) (k0 : w0.heap[p]? = some (.cells #[.slice a Q.length cap] 29 (0, 0))) :
    SeqR 78 #[.pointer (some ⟨p, 0, none⟩)] (said Q) (fun k => k < w0.heap.size) w0 := by
  intro l T J Jx W g0 hsz hmem hT hg0 hg1 hl hJ hJx hY h0
  have hbW : ∀ k, k < w0.heap.size → W.heap[k]? = w0.heap[k]? := fun k hk => (hmem k hk).2
  refine callsIn_of_wp Try.func78 rfl trivial ?_ rfl
  simp only [Try.ntmps78, List.size_toArray, List.length_cons, List.length_nil, Nat.reduceAdd, Nat.reduceSub, Array.replicate_succ, Array.replicate_zero, List.push_toArray, List.append_toArray, List.nil_append, List.cons_append]
  have c0 := one ((hbW _ (blk_lt k0)).trans k0)
  gi_wp2
  have hhead := h.head
  have hcell : ∀ i, i < Q.length → ∀ W' : World, (∀ k, k < w0.heap.size → W'.heap[k]? = w0.heap[k]?) → W'.cell? ⟨b, off + i, none⟩ = some (Q.getD i rm0).val := fun i hi W' hW => (World.cell?_of_block (a := ⟨b, off + i, none⟩) (hW b (h.lt hi))).trans (h.cell i hi)
  have hrow : ∀ i, i < Q.length → ∀ W' : World, (∀ k, k < w0.heap.size → W'.heap[k]? = w0.heap[k]?) → (Q.getD i rm0).Ok W' := fun i hi W' hW => vrd_keep (h.ok i hi) (by
    by_cases z : (Q.getD i rm0).l.length = 0
    · exact .inl z
    · exact .inr (hW _ (vrd_lt (h.ok i hi) z)))
  have hrlt : ∀ i, i < Q.length → (Q.getD i rm0).l.length ≠ 0 → (Q.getD i rm0).b < w0.heap.size := fun i hi z => vrd_lt (h.ok i hi) z
  have hqs := h.size
  have HT : ∀ i, i < Q.length → (said Q).take (i + 1) = (said Q).take i ++ [(Q.getD i rm0).l] := fun i hi => take_next hi
  have HN : Hid ((said Q).take Q.length = said Q) := by rw [← said_len]; exact List.take_length
  clear h c0
  gi_loopw [7] (fun u wr => ∃ (i : Nat) (pre : List Rm) (g : Nat), i ≤ Q.length ∧ u = .int .i64 i ∧ J pre g wr ∧ said pre = (said Q).take i ∧ g < wr.heap.size ∧ w0.heap.size ≤ g ∧ (∀ k, k < w0.heap.size → wr.heap[k]? = w0.heap[k]?)) (fun u _ => Q.length - (intOf u).toNat)
  case atStart => exact ⟨0, [], g0, Nat.zero_le _, rfl, h0, by simp [said], hg1, by omega, hbW⟩
  case round =>
    obtain ⟨i, pre, g, hi, rfl, hJs, hpre, hgs, hgm, hkp⟩ := hrel
    by_cases hlt : i < Q.length
    · have hltz : (i : Int) < (Q.length : Int) := by omega
      obtain rfl := hhead (by omega)
      have A1 := hcell i hlt wr hkp
      have ok1 := hrow i hlt wr hkp
      have hTk := HT i hlt
      have hxw := hrlt i hlt
      generalize Q.getD i rm0 = x at A1 ok1 hTk hxw
      obtain ⟨xa, xb, xo, xc, xl⟩ := x
      simp only [Rm.val] at A1 hTk hxw
      replace ok1 : Vl.Rd wr xa xb xo xl := ok1
      obtain ⟨Wd, hWd⟩ : ∃ Wd : World, Wd = wr.alloc (.cells #[.slice xa xl.length xc] 56) := ⟨_, rfl⟩
      have hbd : Below wr.heap.size wr Wd := by subst hWd; exact below_alloc1 _ _
      have hkd : ∀ k, k < w0.heap.size → Wd.heap[k]? = w0.heap[k]? := fun k hk => (hbd.block k (by omega)).trans (hkp k hk)
      have hJd : J pre g Wd := hJ _ _ _ _ hJs (.of_below hbd)
      have hsd := hbd.size
      have e0 : said (pre ++ [⟨xa, xb, xo, xc, xl⟩]) = (said Q).take (i + 1) := by rw [said_app, hpre, hTk]
      have hYx := hY pre g ⟨xa, xb, xo, xc, xl⟩ Wd hJd (by omega) ⟨by rw [said_app] at e0; rw [e0]; exact List.take_prefix _ _, vrd_keep ok1 (by by_cases z : xl.length = 0; exact .inl z; exact .inr (hbd.block _ (vrd_lt ok1 z))), fun z => by have := hxw z; simp only; omega⟩
      simp only [encR, Rm.val] at hYx
      obtain ⟨fn, tmps, assign, body, hy, hR⟩ := hYx
      rw [hWd] at hy
      clear hcell hrow hrlt HT
      gi_wp2
      rw [← hWd]
      refine hR.mono ?_
      rintro e W3 ⟨htn, (⟨rfl, g2, hJ2, hg2, hl2⟩ | ⟨rfl, hJx2⟩)⟩
      · gi_wp2
        go_roundw
        case rel => exact ⟨i + 1, pre ++ [⟨xa, xb, xo, xc, xl⟩], g2, by omega, by simp, hJ2, e0, hl2, by omega, fun k hk => (htn.block k (by omega) (fun q => (hT k q).1 hk) (by omega)).trans (hkd k hk)⟩
        case measure => simp [intOf]; omega
      · gi_wp2
        refine bodyPost_ret (results_none rfl _ _ _) rfl ?_
        exact ⟨⟨_, rfl⟩, .inr ⟨pre ++ [⟨xa, xb, xo, xc, xl⟩], by rw [e0]; exact List.take_prefix _ _, hJx2⟩⟩
    · obtain rfl : i = Q.length := by omega
      gi_wp2
      go_end0
      exact ⟨⟨_, rfl⟩, .inl ⟨pre, g, by rw [hpre, HN.out], hJs, hgs⟩⟩

end Go.Proofs.Ytfiebakgphcnbaa.Rl

/-
  Relations in memory: rows that are read, relations that came in, sizes.
-/
import Derived.Test.YtkpchlojapkimaaGreatRp
import Derived.Deep.Slices
namespace Go.Proofs.YtkpchlojapkimaaGreat.Rl
set_option maxRecDepth 8000
set_option linter.unusedSimpArgs false
set_option linter.unusedVariables false
open Go Go.ChangeShapes Go.WideShapes Go.RowKit
open Num Word Pl Rp

/-- A row in memory: where its values lie, and what it says. -/
structure Rm where
  a : Option Addr
  b : Nat
  o : Nat
  c : Nat
  l : RowL
def Rm.val (r : Rm) : Value := .slice r.a r.l.length r.c
def rm0 : Rm := ⟨none, 0, 0, 0, []⟩
instance : Inhabited Rm := ⟨rm0⟩
def Rm.Ok (w : World) (r : Rm) : Prop := Vl.Rd w r.a r.b r.o r.l
def said (Q : List Rm) : List RowL := Q.map Rm.l
theorem said_len (Q : List Rm) : (said Q).length = Q.length := by simp [said]
theorem said_at {Q : List Rm} {i : Nat} (h : i < Q.length) : (said Q).getD i [] = (Q.getD i rm0).l := by
  simp [said, List.getD, h]

/-- The slice at 'a' (its head at block b, offset off, where it is not empty) reads as the rows Q. -/
structure Rd (w : World) (a : Option Addr) (b off : Nat) (Q : List Rm) : Prop where
  head : 0 < Q.length → a = some ⟨b, off, none⟩
  cell : ∀ i, i < Q.length → w.cell? ⟨b, off + i, none⟩ = some (Q.getD i rm0).val
  ok : ∀ i, i < Q.length → (Q.getD i rm0).Ok w
  size : Q.length ≤ 4194304
theorem Rd.lt {w : World} {a : Option Addr} {b off : Nat} {Q : List Rm} (h : Rd w a b off Q) {i : Nat} (hi : i < Q.length) : b < w.heap.size := World.block_lt_of_cell? _ _ (h.cell i hi)
theorem vrd_lt {w : World} {a : Option Addr} {b off : Nat} {l : RowL} (h : Vl.Rd w a b off l) (h0 : l.length ≠ 0) : b < w.heap.size := (h.cell 0 (by omega)).lt
/-- A row is read as before where its block is kept. -/
theorem vrd_keep {w w' : World} {a : Option Addr} {b off : Nat} {l : RowL} (h : Vl.Rd w a b off l) (hk : l.length = 0 ∨ w'.heap[b]? = w.heap[b]?) : Vl.Rd w' a b off l := by
  refine ⟨h.head, fun i hi => ?_, h.size, h.str⟩
  rcases hk with hk | hk
  · omega
  · have := h.cell i hi
    exact ⟨(World.cell?_of_block (by exact hk)).trans this.1, (World.cell?_of_block (by exact hk)).trans this.2⟩
theorem Rd.below {w w' : World} {a : Option Addr} {b off : Nat} {Q : List Rm} (h : Rd w a b off Q) (hb : Below w.heap.size w w') : Rd w' a b off Q :=
  ⟨h.head, fun i hi => (hb.cell (h.lt hi)).trans (h.cell i hi), fun i hi => Vl.Rd.below (h.ok i hi) hb, h.size⟩
theorem Rd.keep {w w' : World} {a : Option Addr} {b off : Nat} {Q : List Rm} (h : Rd w a b off Q) (hk : Q.length = 0 ∨ w'.heap[b]? = w.heap[b]?) (hr : ∀ r ∈ Q, r.l.length = 0 ∨ w'.heap[r.b]? = w.heap[r.b]?) : Rd w' a b off Q := by
  refine ⟨h.head, fun i hi => ?_, fun i hi => ?_, h.size⟩
  · rcases hk with hk | hk
    · omega
    · exact (World.cell?_of_block (by exact hk)).trans (h.cell i hi)
  · have hm : Q.getD i rm0 ∈ Q := by
      have e : Q.getD i rm0 = Q[i] := by simp [List.getD, hi]
      rw [e]; exact List.getElem_mem hi
    exact vrd_keep (h.ok i hi) (hr _ hm)
theorem rd_nil (w : World) (a : Option Addr) (b off : Nat) : Rd w a b off [] := ⟨fun h => by simp at h, fun i h => by simp at h, fun i h => by simp at h, by simp⟩
theorem Rd.tail {w : World} {b off : Nat} {r : Rm} {Q : List Rm} {a : Option Addr} (h : Rd w a b off (r :: Q)) : Rd w (some ⟨b, off + 1, none⟩) b (off + 1) Q := by
  refine ⟨fun _ => rfl, fun i hi => ?_, fun i hi => ?_, by have := h.size; simp at this; omega⟩
  · have := h.cell (i + 1) (by simp; omega)
    rw [show off + 1 + i = off + (i + 1) from by omega]
    simpa [List.getD] using this
  · have := h.ok (i + 1) (by simp; omega)
    simpa [List.getD] using this
theorem Rd.zero {w : World} {b off : Nat} {r : Rm} {Q : List Rm} {a : Option Addr} (h : Rd w a b off (r :: Q)) : w.cell? ⟨b, off, none⟩ = some r.val ∧ r.Ok w ∧ a = some ⟨b, off, none⟩ := by
  have h1 := h.cell 0 (by simp)
  have h2 := h.ok 0 (by simp)
  exact ⟨by simpa [List.getD] using h1, by simpa [List.getD] using h2, h.head (by simp)⟩

/-- A row as it came in. -/
structure Raw where
  a : Option Addr
  c : Nat
  l : RowL
def raw0 : Raw := ⟨none, 0, []⟩
instance : Inhabited Raw := ⟨raw0⟩
def Raw.val (r : Raw) : Value := .slice r.a r.l.length r.c
/-- What is told of a slice of rows that came in. -/
def IsRel (w : World) (a : Option Addr) (S : List Raw) : Prop :=
  S.length ≤ maxLen ∧ (∀ i, i < S.length → Vl.IsRow w (S.getD i raw0).a (S.getD i raw0).l) ∧ (S.length = 0 ∨ ∃ b off, a = some ⟨b, off, none⟩ ∧ ∀ i, i < S.length → w.cell? ⟨b, off + i, none⟩ = some (S.getD i raw0).val)
theorem IsRel.below {w w' : World} {a : Option Addr} {S : List Raw} (h : IsRel w a S) (hb : Below w.heap.size w w') : IsRel w' a S := by
  obtain ⟨h1, h2, h3⟩ := h
  refine ⟨h1, fun i hi => (h2 i hi).below hb, h3.imp id ?_⟩
  rintro ⟨b, off, e, hc⟩
  exact ⟨b, off, e, fun i hi => (hb.cell (World.block_lt_of_cell? _ _ (hc i hi))).trans (hc i hi)⟩

/-- How much the first k rows take. -/
def totR (S : List Raw) : Nat → Nat
  | 0 => 0
  | k + 1 => totR S k + ((S.getD k raw0).l.length + Vl.tot (S.getD k raw0).l (S.getD k raw0).l.length)
theorem totR_mono (S : List Raw) {i j : Nat} (h : i ≤ j) : totR S i ≤ totR S j := by
  induction j with
  | zero => have : i = 0 := by omega
            subst this; exact Nat.le_refl _
  | succ j ih =>
    by_cases e : i = j + 1
    · subst e; exact Nat.le_refl _
    · have := ih (by omega)
      simp only [totR]; omega

theorem rd_of_isRel {w : World} {a : Option Addr} {S : List Raw} (h : IsRel w a S) (hlen : S.length + totR S S.length ≤ 1048576) : ∃ b off Q, Rd w a b off Q ∧ said Q = S.map Raw.l ∧ Q.length = S.length := by
  obtain ⟨h1, h2, h3⟩ := h
  have each : ∀ i, i < S.length → ∃ q : Rm, q.Ok w ∧ q.val = (S.getD i raw0).val ∧ q.l = (S.getD i raw0).l := by
    intro i hi
    have t := totR_mono S (i := i + 1) (j := S.length) (by omega)
    simp only [totR] at t
    obtain ⟨b, off, hr⟩ := Vl.rd_of_isRow (h2 i hi) (by omega)
    exact ⟨⟨(S.getD i raw0).a, b, off, (S.getD i raw0).c, (S.getD i raw0).l⟩, hr, rfl, rfl⟩
  obtain ⟨q, hq⟩ := Deep.choose_lt each
  have ge : ∀ i, i < S.length → ((List.range S.length).map q).getD i rm0 = q i := fun i hi => by simp [List.getD, hi]
  have hs : said ((List.range S.length).map q) = S.map Raw.l := by
    refine List.ext_getElem (by simp [said]) fun i h3 h4 => ?_
    have hi : i < S.length := by simpa using h4
    have := (hq i hi).2.2
    simp [said, this, List.getD, hi]
  rcases h3 with h3 | ⟨b, off, e, hc⟩
  · refine ⟨0, 0, (List.range S.length).map q, ⟨fun h => by simp at h; omega, fun i hi => by simp at hi; omega, fun i hi => by simp at hi; omega, by simp; omega⟩, hs, by simp⟩
  · refine ⟨b, off, (List.range S.length).map q, ⟨fun _ => e, fun i hi => ?_, fun i hi => ?_, by simp; omega⟩, hs, by simp⟩
    · simp only [List.length_map, List.length_range] at hi
      rw [ge i hi, hc i hi, (hq i hi).2.1]
    · simp only [List.length_map, List.length_range] at hi
      rw [ge i hi]; exact (hq i hi).1

set_option maxHeartbeats 1000000 in
theorem open_rows {H : Type} {enc : TypeId × Value → H} {W : World} {fuel : Nat} {v : Value} {x : DataW H × List MemPlace}
    (h : DataW.trod enc Tryz.prog W 0 (fun _ => true) true fuel 153 [v] = some x) : ∃ a c S, v = .slice a (List.length S) c ∧ IsRel W a S := by
  have c49 : Tryz.prog.cellsOf 221 = 1 := by kernel_rfl
  have c47 : Tryz.prog.cellsOf 219 = 1 := by kernel_rfl
  rcases Deep.open_slice Tryz.underlying153 h with ⟨hcs, _⟩ | ⟨x, len, cap, m, n, D, Pl, hcs, hb, hl, hm, hmm, _, hx⟩
  · simp at hcs
    subst hcs
    exact ⟨none, 0, [], rfl, by simp, fun i hi => by simp at hi, .inl rfl⟩
  · simp at hcs
    subst hcs
    have hlm : len ≤ m := by rw [hmm]; split <;> omega
    have each : ∀ i, i < len → ∃ q : Raw, Vl.IsRow W q.a q.l ∧ W.cell? (x.add i) = some q.val := by
      intro i hi
      obtain ⟨cs', h1, h2⟩ := hx i (by omega)
      rw [c49] at h1
      obtain ⟨_, hlen, hcell⟩ := World.cells?_some h1
      obtain ⟨xs, k, _, _, hl', hxl, hg⟩ := DataW.trod_struct Tryz.underlying221 h2
      match xs, hxl, cs', hlen with
      | [y0], _, [v0], _ =>
        have g0 := hg 0 _ rfl
        simp [c47] at g0
        obtain ⟨a, c, R, rfl, hR⟩ := Vl.open_vals g0
        have e0 := hcell 0 (by omega)
        rw [Deep.add_add] at e0
        exact ⟨⟨a, c, R⟩, hR, by simpa [Raw.val] using e0⟩
    obtain ⟨q, hq⟩ := Deep.choose_lt each
    have ge : ∀ i, i < len → ((List.range len).map q).getD i raw0 = q i := fun i hi => by simp [List.getD, hi]
    refine ⟨some x, cap, (List.range len).map q, by simp, by simp; omega, fun i hi => ?_, ?_⟩
    · simp only [List.length_map, List.length_range] at hi
      rw [ge i hi]
      exact (hq i hi).1
    · by_cases h0 : len = 0
      · left; simp [h0]
      right
      obtain ⟨b, off, spot⟩ := x
      have hc := (hq 0 (by omega)).2
      have hspot : spot = none := by simpa [Addr.add] using World.cell?_spot hc
      subst hspot
      refine ⟨b, off, rfl, fun i hi => ?_⟩
      simp only [List.length_map, List.length_range] at hi
      have := (hq i hi).2
      rw [add_eq] at this
      rw [ge i hi]
      exact this
theorem open_rel {H : Type} {enc : TypeId × Value → H} {W : World} {r : Reach} {b0 : Nat} {v : Value} {d : DataW H} {p : List MemPlace}
    (hv : Value.okWide Tryz.prog W r b0 155 v) (h : DataW.Trod enc Tryz.prog W 0 (fun _ => true) true 155 v d p) : ∃ ar a c S, v = .agg #[.int .i64 ar, .slice a (List.length S) c] ∧ IsRel W a S := by
  have c3 : Tryz.prog.cellsOf 3 = 1 := by kernel_rfl
  have c40 : Tryz.prog.cellsOf 153 = 1 := by kernel_rfl
  have c42 : Tryz.prog.cellsOf 155 = 2 := by kernel_rfl
  obtain ⟨cs, rfl, hsz⟩ := okWide_struct Tryz.underlying155 hv
  obtain ⟨v0, v1, rfl⟩ := Vl.array2 (hsz.trans c42)
  obtain ⟨fuel, hf⟩ := h
  obtain ⟨xs, k, _, _, hl, hxl, hg⟩ := DataW.trod_struct Tryz.underlying155 hf
  match xs, hxl with
  | [y0, y1], _ =>
    have g0 := hg 0 _ rfl
    have g1 := hg 1 _ rfl
    simp [c3, c40, Value.cells] at g0 g1
    obtain ⟨q0, r0, _⟩ := DataW.trod_int Tryz.underlying3 g0
    simp at r0
    subst r0
    obtain ⟨a, c, R, rfl, hR⟩ := open_rows g1
    exact ⟨q0, a, c, R, rfl, hR⟩

set_option maxHeartbeats 1000000 in
theorem szT_at (a : Option Addr) (c L R : Nat) (S : List Raw) (w : World) (h : IsRel w a S) (hR : S.length + totR S S.length + R = L) (hL : L ≤ 1048576) :
    Calls Tryz.prog 173 #[.slice a S.length c, .int .i64 L] w fun e w' => e = .returned (.int .i64 R) ∧ Below w.heap.size w w' := by
  obtain ⟨hm, hs, h3⟩ := h
  obtain ⟨n, hn⟩ : ∃ n, n = S.length := ⟨_, rfl⟩
  rw [← hn] at hm hs h3 hR ⊢
  have h0 : ¬ ((L : Int) - (n : Int) < 0) := by omega
  have HR : Hid (n + totR S n + R = L) := hR
  have HH : Hid (n = 0 ∨ ∃ b off, a = some ⟨b, off, none⟩ ∧ ∀ i, i < n → w.cell? ⟨b, off + i, none⟩ = some (S.getD i raw0).val) := h3
  have HS : Hid (∀ i, i < n → Vl.IsRow w (S.getD i raw0).a (S.getD i raw0).l) := hs
  have hnL : n ≤ L := by omega
  clear hn hR hs h3
  go_enter Tryz.func173, Tryz.ntmps173
  go_wp2
  go_loopw [1, 5] (fun u i wr => ∃ k : Nat, k ≤ n ∧ i = .int .i64 k ∧ u = .int .i64 ((L - n - totR S k : Nat) : Int) ∧ Below w.heap.size w wr) (fun _ i _ => n - (intOf i).toNat)
  case atStart => exact ⟨0, Nat.zero_le _, rfl, by simp only [totR]; congr 1; omega, Below.refl _ _⟩
  case round =>
    obtain ⟨k, hk, rfl, rfl, hbel⟩ := hrel
    have q1 := totR_mono S hk
    by_cases hlt : k < n
    · have q2 := totR_mono S (i := k + 1) (j := n) hlt
      simp only [totR] at q2
      obtain ⟨b, off, rfl, hc⟩ := HH.out.resolve_left (by omega)
      have hkz : (k : Int) < (n : Int) := by omega
      have c0 := (hbel.cell (World.block_lt_of_cell? _ _ (hc k hlt))).trans (hc k hlt)
      have ir := (HS.out k hlt).below hbel
      have hr := HR.out
      have HT : Hid (totR S (k + 1) = totR S k + ((S.getD k raw0).l.length + Vl.tot (S.getD k raw0).l (S.getD k raw0).l.length)) := rfl
      clear hc HH HS
      obtain ⟨M, hM⟩ : ∃ M, M = L - n - totR S k := ⟨_, rfl⟩
      rw [← hM]
      generalize S.getD k raw0 = x at c0 q2 HT ir
      obtain ⟨xa, xc, xl⟩ := x
      simp only [Raw.val] at c0 q2 HT ir
      obtain ⟨M', hM'⟩ : ∃ M', xl.length + Vl.tot xl xl.length + M' = M := ⟨M - (xl.length + Vl.tot xl xl.length), by omega⟩
      have hhi : M ≤ 1048576 := by omega
      have hSz := Vl.szR_at xa xc M M' xl wr ir hM' hhi
      have HM : Hid (M = L - n - totR S k) := hM
      have HM' : Hid (xl.length + Vl.tot xl xl.length + M' = M) := hM'
      have HQ : Hid (totR S k + (xl.length + Vl.tot xl xl.length) ≤ totR S n) := q2
      have hr' : Hid (n + totR S n + R = L) := hr
      clear hM hM' hr q1 q2
      have h0' : ¬ ((M' : Int) < 0) := by omega
      go_wp2_with (go_at_call 185; refine hSz.mono ?_; rintro e w1 ⟨rfl, hb⟩)
      go_roundw
      case rel => exact ⟨k + 1, by omega, by go_num, by have := HT.out; have := HM.out; have := HM'.out; have := HQ.out; have := hr'.out; congr 1; omega, Rw.next hbel hb⟩
      case measure => simp [intOf]; omega
    · have he : k = n := by omega
      subst he
      have hr := HR.out
      have e : L - k - totR S k = R := by omega
      rw [e]
      go_wp2
      go_ret
      exact ⟨rfl, hbel⟩

set_option maxHeartbeats 1000000 in
theorem szT_big (a : Option Addr) (c L : Nat) (S : List Raw) (w : World) (h : IsRel w a S) (hR : L < S.length + totR S S.length) (hL : L ≤ 1048576) :
    Calls Tryz.prog 173 #[.slice a S.length c, .int .i64 L] w fun e w' => e = .returned (.int .i64 (-1)) ∧ Below w.heap.size w w' := by
  obtain ⟨hm, hs, h3⟩ := h
  obtain ⟨n, hn⟩ : ∃ n, n = S.length := ⟨_, rfl⟩
  rw [← hn] at hm hs h3 hR ⊢
  by_cases hnL : n ≤ L
  · have h0 : ¬ ((L : Int) - (n : Int) < 0) := by omega
    have HR : Hid (L < n + totR S n) := hR
    have HH : Hid (n = 0 ∨ ∃ b off, a = some ⟨b, off, none⟩ ∧ ∀ i, i < n → w.cell? ⟨b, off + i, none⟩ = some (S.getD i raw0).val) := h3
    have HS : Hid (∀ i, i < n → Vl.IsRow w (S.getD i raw0).a (S.getD i raw0).l) := hs
    clear hn hR hs h3
    go_enter Tryz.func173, Tryz.ntmps173
    go_wp2
    go_loopw [1, 5] (fun u i wr => ∃ k : Nat, k ≤ n ∧ i = .int .i64 k ∧ u = .int .i64 ((L - n - totR S k : Nat) : Int) ∧ totR S k ≤ L - n ∧ Below w.heap.size w wr) (fun _ i _ => n - (intOf i).toNat)
    case atStart => exact ⟨0, Nat.zero_le _, rfl, by simp only [totR]; congr 1; omega, by simp [totR], Below.refl _ _⟩
    case round =>
      obtain ⟨k, hk, rfl, rfl, htk, hbel⟩ := hrel
      have hlt : k < n := by
        have := HR.out
        rcases Nat.lt_or_ge k n with h | h
        · exact h
        · have : k = n := by omega
          subst this; omega
      obtain ⟨b, off, rfl, hc⟩ := HH.out.resolve_left (by omega)
      have hkz : (k : Int) < (n : Int) := by omega
      have c0 := (hbel.cell (World.block_lt_of_cell? _ _ (hc k hlt))).trans (hc k hlt)
      have ir := (HS.out k hlt).below hbel
      have HT : Hid (totR S (k + 1) = totR S k + ((S.getD k raw0).l.length + Vl.tot (S.getD k raw0).l (S.getD k raw0).l.length)) := rfl
      clear hc HH HS
      obtain ⟨M, hM⟩ : ∃ M, M = L - n - totR S k := ⟨_, rfl⟩
      rw [← hM]
      generalize S.getD k raw0 = x at c0 HT ir
      obtain ⟨xa, xc, xl⟩ := x
      simp only [Raw.val] at c0 HT ir
      have hhi : M ≤ 1048576 := by omega
      have HM : Hid (M = L - n - totR S k) := hM
      have HK : Hid (totR S k ≤ L - n) := htk
      clear hM htk
      by_cases hlo : xl.length + Vl.tot xl xl.length ≤ M
      · obtain ⟨M', hM'⟩ : ∃ M', xl.length + Vl.tot xl xl.length + M' = M := ⟨M - (xl.length + Vl.tot xl xl.length), by omega⟩
        have hSz := Vl.szR_at xa xc M M' xl wr ir hM' hhi
        have HM' : Hid (xl.length + Vl.tot xl xl.length + M' = M) := hM'
        clear hM' hlo
        have h0' : ¬ ((M' : Int) < 0) := by omega
        go_wp2_with (go_at_call 185; refine hSz.mono ?_; rintro e w1 ⟨rfl, hb⟩)
        go_roundw
        case rel => exact ⟨k + 1, by omega, by go_num, by have := HT.out; have := HM.out; have := HK.out; have := HM'.out; congr 1; omega, by have := HT.out; have := HM.out; have := HK.out; have := HM'.out; omega, Rw.next hbel hb⟩
        case measure => simp [intOf]; omega
      · have hSz := Vl.szR_big xa xc M xl wr ir (by omega) hhi
        clear hlo
        go_wp2_with (go_at_call 185; refine hSz.mono ?_; rintro e w1 ⟨rfl, hb⟩)
        go_ret
        exact ⟨rfl, Rw.next hbel hb⟩
  · unfold maxLen at hm
    have h0 : (L : Int) - (n : Int) < 0 := by omega
    go_enter Tryz.func173, Tryz.ntmps173
    go_wp2
    go_ret
    exact ⟨rfl, Below.refl _ _⟩

theorem szL_at (ar : Int) (a : Option Addr) (c L R : Nat) (S : List Raw) (w : World) (h : IsRel w a S) (hR : S.length + totR S S.length + R = L) (hL : L ≤ 1048576) :
    Calls Tryz.prog 145 #[.agg #[.int .i64 ar, .slice a S.length c], .int .i64 L] w fun e w' => e = .returned (.int .i64 R) ∧ Below w.heap.size w w' := by
  have B := below_alloc1 w (.cells #[.int .i64 ar, .slice a S.length c] 155)
  have h0 : ¬ ((R : Int) < 0) := by omega
  have hc := szT_at a c L R S _ (h.below B) hR hL
  go_enter Tryz.func145, Tryz.ntmps145
  go_wp2_with (go_at_call 173; refine hc.mono ?_; rintro e w1 ⟨rfl, hb⟩)
  go_ret
  exact ⟨rfl, Rw.next B hb⟩
theorem szL_big (ar : Int) (a : Option Addr) (c L : Nat) (S : List Raw) (w : World) (h : IsRel w a S) (hR : L < S.length + totR S S.length) (hL : L ≤ 1048576) :
    Calls Tryz.prog 145 #[.agg #[.int .i64 ar, .slice a S.length c], .int .i64 L] w fun e w' => e = .returned (.int .i64 (-1)) ∧ Below w.heap.size w w' := by
  have B := below_alloc1 w (.cells #[.int .i64 ar, .slice a S.length c] 155)
  have hc := szT_big a c L S _ (h.below B) hR hL
  go_enter Tryz.func145, Tryz.ntmps145
  go_wp2_with (go_at_call 173; refine hc.mono ?_; rintro e w1 ⟨rfl, hb⟩)
  go_ret
  exact ⟨rfl, Rw.next B hb⟩

end Go.Proofs.YtkpchlojapkimaaGreat.Rl

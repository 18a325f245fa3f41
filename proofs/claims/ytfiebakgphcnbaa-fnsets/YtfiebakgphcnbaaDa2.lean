/-
  Full relations.
-/
import Derived.Test.YtfiebakgphcnbaaDa1
namespace Go.Proofs.Ytfiebakgphcnbaa.Dr
set_option maxRecDepth 8000
set_option linter.unusedSimpArgs false
set_option linter.unusedVariables false
open Go Go.RowKit
open Num Rw Pl
open Rl (flatV Rm OG)
open Vl (V2 z2)

theorem OV.step {m : Nat} {w W : World} {B : Nat} {v : Value} {l : List V2} {n : Int} {s : ByteArray} (h : OV W B v l) (hw : Below m w W) (hm : m ≤ w.heap.size) (hB0 : m ≤ B) (hB : B ≤ W.heap.size) (hs : s.size ≤ 100) (hl : l.length ≤ 100000) :
    ∃ va vn vc Z, (Builtin.append_ #[54, 54] 32 #[v, .slice (some ⟨W.heap.size, 0, none⟩) 1 1]).run Try.prog (W.alloc (.cells #[.int .i64 n, .string s] 35)) = .ok (.slice va vn vc) Z ∧ OV Z B (.slice va vn vc) (l ++ [(n, s)]) ∧ Below m w Z ∧ W.heap.size ≤ Z.heap.size ∧ ∀ k, k < B → Z.heap[k]? = W.heap[k]? := by
  have hb := below_alloc1 W (.cells #[.int .i64 n, .string s] 35)
  obtain ⟨va, vn, vc, Z, hrun, ovZ, hgr⟩ := (h.below hb).app 32 (c := 1) (n := n) (s := s) (Nat.le_trans hB hb.size) (at_new rfl) hs hl
  refine ⟨va, vn, vc, Z, hrun, ovZ, (hw.trans (hb.mono (Nat.le_trans hm hw.size))).grown hgr (Nat.le_trans hm (Nat.le_trans hw.size hb.size)) (fun k hk => by have := (h.lt hk).1; omega), Nat.le_trans hb.size hgr.size, fun k hk => ?_⟩
  exact (hgr.block k (Nat.lt_of_lt_of_le (Nat.lt_of_lt_of_le hk hB) hb.size) (fun e => by have := (h.lt e.symm).1; omega)).trans (hb.block k (Nat.lt_of_lt_of_le hk hB))

set_option maxHeartbeats 8000000 in
theorem full_any (n : Nat) (hn : n ≤ 1000) (w : World) :
    Calls Try.prog 100 #[.int .i64 1, .int .i64 n] w fun e w' => ∃ va vn vc Q, e = .returned (.agg #[.int .i64 1, .slice va vn vc]) ∧ OR w' w.heap.size (.slice va vn vc) Q ∧ Q.length ≤ n ∧ Below w.heap.size w w' := by
  obtain ⟨W1, hW1⟩ : ∃ W1, W1 = (w.alloc (.cells #[.int .i64 0, .slice none 0 0] 31)).alloc (.cells #[.int .i64 1, .slice none 0 0] 31) := ⟨_, rfl⟩
  have kR : W1.heap[w.heap.size]? = some (.cells #[.int .i64 0, .slice none 0 0] 31 (0, 0)) := by subst hW1; rw [at_old (by simp), at_new rfl]
  have kO : W1.heap[w.heap.size + 1]? = some (.cells #[.int .i64 1, .slice none 0 0] 31 (0, 0)) := by subst hW1; exact at_new (by simp)
  have B1 : Below w.heap.size w W1 := by subst hW1; exact below_alloc2 _ _ _
  obtain ⟨B, hB⟩ : ∃ B, B = w.heap.size + 1 + 1 := ⟨_, rfl⟩
  have zB : B ≤ W1.heap.size := by have := blk_lt kO; omega
  have hBw : w.heap.size + 1 < B ∧ w.heap.size ≤ B := by omega
  have HB : Hid (B = w.heap.size + 1 + 1) := hB
  clear hB
  go_enter Try.func100, Try.ntmps100
  go_wp2
  rw [← hW1]
  clear hW1
  go_loopw [6] (fun u wr => ∃ (i : Nat) (v : Value) (Q : List Rm), i ≤ n ∧ u = .int .i64 i ∧ Below w.heap.size w wr ∧ wr.heap[w.heap.size]? = some (.cells #[.int .i64 0, .slice none 0 0] 31 (0, 0)) ∧ wr.heap[w.heap.size + 1]? = some (.cells #[.int .i64 1, v] 31 (0, 0)) ∧ OR wr B v Q ∧ B ≤ wr.heap.size ∧ Q.length ≤ i) (fun u _ => n - (intOf u).toNat)
  case atStart => exact ⟨0, .slice none 0 0, [], Nat.zero_le _, rfl, B1, kR, kO, OR.nil _ _, zB, by simp⟩
  case round =>
    clear B1 kR kO zB
    obtain ⟨i, v, Q, hi, rfl, B1, kR, kO, orr, hBs, hl⟩ := hrel
    obtain ⟨wo, hwo⟩ : ∃ wo, wo = wr := ⟨_, rfl⟩
    subst hwo
    by_cases hlt : i < n
    · have hnz : (i : Int) < (n : Int) := by omega
      obtain ⟨W2, hW2⟩ : ∃ W2, W2 = wo.alloc (.cells #[.slice none 0 0] 56) := ⟨_, rfl⟩
      have kT : W2.heap[wo.heap.size]? = some (.cells #[.slice none 0 0] 56 (0, 0)) := by subst hW2; exact at_new rfl
      have B2 : Below wo.heap.size wo W2 := by subst hW2; exact below_alloc1 _ _
      have zT : wo.heap.size + 1 ≤ W2.heap.size := by have := blk_lt kT; omega
      go_wp2
      rw [← hW2]
      clear hW2
      go_loopw [8] (fun u ws => ∃ (k : Nat) (v' : Value) (l : List V2), k ≤ 1 ∧ u = .int .i64 k ∧ Below wo.heap.size wo ws ∧ ws.heap[wo.heap.size]? = some (.cells #[v'] 56 (0, 0)) ∧ OV ws (wo.heap.size + 1) v' l ∧ wo.heap.size + 1 ≤ ws.heap.size ∧ l.length ≤ k) (fun u _ => 1 - (intOf u).toNat)
      case atStart => exact ⟨0, .slice none 0 0, [], Nat.zero_le _, rfl, B2, kT, OV.nil _ _, zT, by simp⟩
      case round =>
        clear B2 kT zT
        obtain ⟨k, v', l, hk, rfl, B2, kT, ov, zT, hll⟩ := hrel
        have o0 := one kT
        have fO := Vl.free kT
        by_cases hlk : k < 1
        · have hk0 : k = 0 := by omega
          subst hk0
          obtain ⟨va, vn, vc, Z, hrun, ovZ, BZ, sZ, kZ⟩ := OV.step (m := wo.heap.size) (n := (i : Int)) (s := ⟨#[]⟩) ov B2 (Nat.le_refl _) (by omega) zT (by decide) (by omega)
          go_wp2_with (at_builtin; refine Hn.wpList_run rfl (Hn.exec_app (.tmp 23) (.tmp 26) rfl rfl rfl hrun) ?_; have kTZ := (kZ _ (by omega)).trans kT; have fZ := Vl.free kTZ; have oZ := one kTZ)
          go_roundw
          case rel => exact ⟨1, _, l ++ [((i : Int), ⟨#[]⟩)], by omega, rfl, Vl.bset BZ (Nat.le_refl _), one_set kTZ, ovZ.keep fun x hx hx2 => Below.heap_setCell _ _ _ _ (by have := (ovZ.lt hx2).1; simp only; omega), by simpa using (by omega : wo.heap.size + 1 ≤ Z.heap.size), by simp only [List.length_append, List.length_singleton]; omega⟩
          case measure => simp [intOf]
        · have hk1 : k = 1 := by omega
          subst hk1
          have or2 := orr.below B2
          replace kO := (B2.block _ (blk_lt kO)).trans kO
          replace kR := (B2.block _ (blk_lt kR)).trans kR
          replace B1 := Rw.next B1 B2
          obtain ⟨r, hv, hnr, hrl, hcp⟩ := ov.row (by omega)
          subst hv
          clear hrl hcp
          obtain ⟨p0, p1⟩ := two kO
          have fP := Vl.free kO
          obtain ⟨va, vn, vc, Z, hrun, ogZ, BZ, sZ, kZ⟩ := OG.step or2.og B1 (by omega) (by omega) hnr.ok (fun h0 e => by have := (hnr.own h0).2.1; have := (orr.og.lt e.symm).2; omega) (by omega)
          simp only [Rm.val] at hrun o0
          go_wp2_with (at_builtin; refine Hn.wpList_run rfl (Hn.exec_app (.tmp 30) (.tmp 32) rfl rfl rfl hrun) ?_; have kOZ := (kZ _ (by omega)).trans kO; have kRZ := (kZ _ (by omega)).trans kR; have fZ := Vl.free kOZ; obtain ⟨z0, z1⟩ := two kOZ)
          go_roundw
          case rel => exact ⟨i + 1, _, Q ++ [r], by omega, by go_num, Vl.bset BZ (by simp only; omega), (Below.heap_setCell _ _ _ _ (by simp only; omega)).trans kRZ, Rl.two_set1 kOZ, OR.set ⟨ogZ, fun x hx h0 => by rcases List.mem_append.1 hx with hx | hx; exact orr.low x hx h0; (obtain rfl := List.mem_singleton.1 hx; have := (hnr.own h0).2.1; omega)⟩ (by simp only; omega), by simpa using (by omega : B ≤ Z.heap.size), by simp only [List.length_append, List.length_singleton]; omega⟩
          case measure => simp [intOf]; omega
    · have he : i = n := by omega
      subst he
      obtain ⟨va, vn, vc, hv⟩ := orr.og.slice
      subst hv
      obtain ⟨o0, o1⟩ := two kO
      obtain ⟨r0, r1⟩ := two kR
      have fR := Vl.free kR
      go_wp2
      refine bodyPost_ret (v := .agg #[.int .i64 1, .slice va vn vc]) (by simp [results, Try.results100, go_sem, r0, r1]) rfl ⟨va, vn, vc, Q, rfl, ?_, by omega, ?_⟩
      · refine OR.mono (B := B) ?_ (by omega)
        repeat (first | with_reducible exact orr | refine OR.set ?_ (by simp only; omega))
      · repeat (first | with_reducible exact B1 | refine Vl.bset ?_ (by simp only; omega))

end Go.Proofs.Ytfiebakgphcnbaa.Dr

/-
  Rows alike; is a row in a list of rows?
-/
import Derived.Test.YtkpchlojapkimaaGreatRe
import Derived.Test.YtkpchlojapkimaaGreatRf
namespace Go.Proofs.YtkpchlojapkimaaGreat.Rl
set_option maxRecDepth 8000
set_option linter.unusedSimpArgs false
set_option linter.unusedVariables false
open Go Go.RowKit
open Num Word Pl Rp
open Vl (ordRow V2 z2)

theorem ext2_ne {l m : RowL} {k : Nat} (h : l.getD k z2 ≠ m.getD k z2) : l ≠ m := fun e => h (by rw [e])

set_option maxHeartbeats 2000000 in
theorem same_any (a a' : Option Addr) (b off cap b' off' cap' : Nat) (l m : RowL) (w : World) (h : Vl.Rd w a b off l) (h' : Vl.Rd w a' b' off' m) :
    Calls Tryz.prog 101 #[.agg #[.slice a l.length cap], .agg #[.slice a' m.length cap']] w fun e w' => e = .returned (.bool (decide (l = m))) ∧ Below w.heap.size w w' := by
  obtain ⟨W1, hW1⟩ : ∃ W1, W1 = (w.alloc (.cells #[.slice a l.length cap] 107)).alloc (.cells #[.slice a' m.length cap'] 107) := ⟨_, rfl⟩
  have B1 : Below w.heap.size w W1 := by subst hW1; exact below_alloc2 _ _ _
  by_cases hlen : l.length = m.length
  · have k0 : W1.heap[w.heap.size]? = some (.cells #[.slice a l.length cap] 107 (0, 0)) := by subst hW1; rw [at_old (by simp), at_new rfl]
    have k1 : W1.heap[w.heap.size + 1]? = some (.cells #[.slice a' m.length cap'] 107 (0, 0)) := by subst hW1; rw [at_new (by simp)]
    obtain ⟨hh, hc, hs, hz⟩ := h.below B1
    obtain ⟨hh', hc', hs', hz'⟩ := h'.below B1
    clear h h' hz hz' hs'
    obtain ⟨R, hR⟩ : ∃ R, R = decide (l = m) := ⟨_, rfl⟩
    have HB : Hid (∀ k, l.getD k z2 ≠ m.getD k z2 → R = false) := fun k h => by rw [hR]; exact decide_eq_false (ext2_ne h)
    have HG : Hid ((∀ i, i < l.length → l.getD i z2 = m.getD i z2) → R = true) := fun h => by rw [hR]; exact decide_eq_true (Vl.ext2 hlen h)
    rw [← hR]
    clear hR
    rw [← hlen] at hh' hc' k1 hW1 ⊢
    obtain ⟨n, hn⟩ : ∃ n, n = l.length := ⟨_, rfl⟩
    rw [← hn] at hh hc hs hh' hc' k0 k1 HG hW1 ⊢
    clear hn hlen
    go_enter Tryz.func101, Tryz.ntmps101
    go_wp2
    rw [← hW1]
    clear hW1
    go_loopw [16] (fun i wr => ∃ k : Nat, k ≤ n ∧ i = .int .i64 k ∧ Below W1.heap.size W1 wr ∧ ∀ i, i < k → l.getD i z2 = m.getD i z2) (fun i _ => n - (intOf i).toNat)
    case atStart => exact ⟨0, Nat.zero_le _, rfl, Below.refl _ _, fun i hi => by omega⟩
    case round =>
      obtain ⟨k, hk, rfl, hbel, hpre⟩ := hrel
      have HP : Hid (∀ i, i < k → l.getD i z2 = m.getD i z2) := hpre
      clear hpre
      replace k0 := (hbel.block _ (blk_lt k0)).trans k0
      replace k1 := (hbel.block _ (blk_lt k1)).trans k1
      have p0 := one k0
      have p1 := one k1
      by_cases hlt : k < n
      · obtain rfl := hh (by omega)
        obtain rfl := hh' (by omega)
        have hkz : (k : Int) < (n : Int) := by omega
        have hk0 : (0 : Int) ≤ (k : Int) := by omega
        obtain ⟨c0, c1⟩ := (hc k hlt).of hbel (hc k hlt).lt
        obtain ⟨d0, d1⟩ := (hc' k hlt).of hbel (hc' k hlt).lt
        have HB1 : Hid (l.getD k z2 ≠ m.getD k z2 → R = false) := HB.out k
        have HX : Hid (l.getD k z2 = m.getD k z2 → ∀ i, i < k + 1 → l.getD i z2 = m.getD i z2) := fun h i hi => by
          by_cases e : i = k
          · subst e; exact h
          · exact HP.out i (by omega)
        clear hc hc' hh hh' HB
        generalize l.getD k z2 = x at c0 c1 HB1 HX
        generalize m.getD k z2 = y at d0 d1 HB1 HX
        obtain ⟨x0, x1⟩ := x
        obtain ⟨y0, y1⟩ := y
        simp only at c0 c1 d0 d1
        by_cases e0 : x0 = y0
        · subst e0
          by_cases e1 : x1 = y1
          · subst e1
            go_wp2
            go_quiet (fail)
            go_wp2
            go_roundw
            case rel => exact ⟨k + 1, by omega, by go_num, below_drewN hbel _, HX.out (by first | rfl | trivial)⟩
            case measure => simp [intOf]; omega
          · have hq : (x1.toList == y1.toList) = false := by
              rw [beq_eq_false_iff_ne]
              intro e
              rw [ByteArray.toList_eq, ByteArray.toList_eq] at e
              exact e1 (Go.WideShapes.bytes_inj e)
            have HQ : Hid (R = false) := HB1.out (by simp [e1])
            clear e1 HB1 HX
            go_wp2
            go_quiet (fail)
            go_wp2
            go_ret
            exact ⟨ret_bool HQ.out.symm, Rw.next B1 (below_drewN hbel _)⟩
        · have hn : (x0 == y0) = false := by simpa using e0
          have HQ : Hid (R = false) := HB1.out (by simp [e0])
          clear HB1 HX e0
          go_wp2
          go_quiet (fail)
          go_wp2
          go_ret
          exact ⟨ret_bool HQ.out.symm, Rw.next B1 (below_drewN hbel _)⟩
      · have he : k = n := by omega
        subst he
        go_wp2
        go_ret
        exact ⟨ret_bool (HG.out HP.out).symm, Rw.next B1 hbel⟩
  · have hne : ¬ ((l.length : Int) = (m.length : Int)) := by omega
    have hn1 : ((l.length : Int) != (m.length : Int)) = true := by simpa using hne
    have e : decide (l = m) = false := decide_eq_false (fun e => hlen (by rw [e]))
    rw [e]
    subst hW1
    clear e hlen
    go_enter Tryz.func101, Tryz.ntmps101
    go_wp2
    go_ret
    exact ⟨rfl, B1⟩

set_option maxHeartbeats 2000000 in
theorem lhas_any (a a' : Option Addr) (b off cap b' off' cap' : Nat) (Q : List Rm) (m : RowL) (w : World) (h : Rd w a b off Q) (h' : Vl.Rd w a' b' off' m) :
    Calls Tryz.prog 94 #[.slice a Q.length cap, .agg #[.slice a' m.length cap']] w fun e w' => e = .returned (.bool (decide (m ∈ said Q))) ∧ Below w.heap.size w w' := by
  obtain ⟨W1, hW1⟩ : ∃ W1, W1 = w.alloc (.cells #[.slice a' m.length cap'] 107) := ⟨_, rfl⟩
  have B1 : Below w.heap.size w W1 := by subst hW1; exact below_alloc1 _ _
  have k0 : W1.heap[w.heap.size]? = some (.cells #[.slice a' m.length cap'] 107 (0, 0)) := by subst hW1; exact at_new rfl
  obtain ⟨hh, hc, ho, hs⟩ := h.below B1
  replace h' := h'.below B1
  clear h
  obtain ⟨R, hR⟩ : ∃ R, R = decide (m ∈ said Q) := ⟨_, rfl⟩
  have HG : Hid (∀ k, k < Q.length → (Q.getD k rm0).l = m → R = true) := fun k hk h => by
    rw [hR]
    refine decide_eq_true ?_
    rw [← h]; exact List.mem_map_of_mem (getD_mem hk)
  have HB : Hid ((∀ i, i < Q.length → (Q.getD i rm0).l ≠ m) → R = false) := fun h => by
    rw [hR]
    refine decide_eq_false fun hm => ?_
    obtain ⟨r, hr, e⟩ := List.mem_map.1 hm
    obtain ⟨i, hi, rfl⟩ := List.getElem_of_mem hr
    exact h i hi (by simpa [List.getD, hi] using e)
  rw [← hR]
  clear hR
  obtain ⟨n, hn⟩ : ∃ n, n = Q.length := ⟨_, rfl⟩
  rw [← hn] at hh hc ho hs HG HB ⊢
  clear hn
  go_enter Tryz.func94, Tryz.ntmps94
  go_wp2
  rw [← hW1]
  clear hW1
  go_loopw [8] (fun i wr => ∃ k : Nat, k ≤ n ∧ i = .int .i64 k ∧ Below W1.heap.size W1 wr ∧ ∀ i, i < k → (Q.getD i rm0).l ≠ m) (fun i _ => n - (intOf i).toNat)
  case atStart => exact ⟨0, Nat.zero_le _, rfl, Below.refl _ _, fun i hi => by omega⟩
  case round =>
    obtain ⟨k, hk, rfl, hbel, hpre⟩ := hrel
    have HP : Hid (∀ i, i < k → (Q.getD i rm0).l ≠ m) := hpre
    clear hpre
    replace k0 := (hbel.block _ (blk_lt k0)).trans k0
    have p0 := one k0
    replace h' := h'.below hbel
    by_cases hlt : k < n
    · obtain rfl := hh (by omega)
      have hkz : (k : Int) < (n : Int) := by omega
      have hk0 : (0 : Int) ≤ (k : Int) := by omega
      have A1 := (hbel.cell (World.block_lt_of_cell? _ _ (hc k hlt))).trans (hc k hlt)
      have o1 := Vl.Rd.below (ho k hlt) hbel
      have HG1 : Hid ((Q.getD k rm0).l = m → R = true) := HG.out k hlt
      have HX : Hid ((Q.getD k rm0).l ≠ m → ∀ i, i < k + 1 → (Q.getD i rm0).l ≠ m) := fun h i hi => by
        by_cases e : i = k
        · subst e; exact h
        · exact HP.out i (by omega)
      clear hc ho hh HG
      generalize Q.getD k rm0 = x at A1 o1 HG1 HX
      obtain ⟨xa, xb, xo, xc, xl⟩ := x
      simp only [Rm.val] at A1 o1 HG1 HX
      have hS := fun W h h' => same_any xa a' xb xo xc b' off' cap' xl m W h h'
      by_cases hx : xl = m
      · rw [decide_eq_true hx] at hS
        have HQ : Hid (R = true) := HG1.out hx
        clear HG1 HX hx
        go_wp2
        go_region_held3 (fun w' => w'.cell? ⟨w.heap.size, 0, none⟩ = some (.slice a' m.length cap') ∧ w'.cell? ⟨b, off + k, none⟩ = some (.slice xa xl.length xc)) (go_keep) (first
          | (go_at_call 101; refine (hS _ (o1.below ((Below.refl _ _).drew)) (h'.below ((Below.refl _ _).drew))).mono ?_; rintro e w1 ⟨rfl, hb⟩; replace hb := Rw.next ((Below.refl _ _).drew) hb; clear p0; replace hbel := Rw.next hbel hb; replace k0 := (hb.block _ (blk_lt k0)).trans k0; have p0 := one k0; replace A1 := (hb.cell (World.block_lt_of_cell? _ _ A1)).trans A1))
        go_wp2
        go_ret
        exact ⟨ret_bool HQ.out.symm, Rw.next B1 hbel⟩
      · rw [decide_eq_false hx] at hS
        have HQ : Hid (∀ i, i < k + 1 → (Q.getD i rm0).l ≠ m) := HX.out hx
        clear HG1 HX hx
        go_wp2
        go_region_held3 (fun w' => w'.cell? ⟨w.heap.size, 0, none⟩ = some (.slice a' m.length cap') ∧ w'.cell? ⟨b, off + k, none⟩ = some (.slice xa xl.length xc)) (go_keep) (first
          | (go_at_call 101; refine (hS _ (o1.below ((Below.refl _ _).drew)) (h'.below ((Below.refl _ _).drew))).mono ?_; rintro e w1 ⟨rfl, hb⟩; replace hb := Rw.next ((Below.refl _ _).drew) hb; clear p0; replace hbel := Rw.next hbel hb; replace k0 := (hb.block _ (blk_lt k0)).trans k0; have p0 := one k0; replace A1 := (hb.cell (World.block_lt_of_cell? _ _ A1)).trans A1))
        go_wp2
        go_roundw
        case rel => exact ⟨k + 1, by omega, by go_num, hbel, HQ.out⟩
        case measure => simp [intOf]; omega
    · have he : k = n := by omega
      subst he
      go_wp2
      go_ret
      exact ⟨ret_bool (HB.out HP.out).symm, Rw.next B1 hbel⟩

/-- Both RelHas. -/
def hasB (ar : Int) (R : List RowL) (m : RowL) : Bool := relB ar R && decide (m ∈ R)
end Go.Proofs.YtkpchlojapkimaaGreat.Rl

/-
  Rows alike; is a row in a list of rows?
-/
import Derived.Test.YtecnbenlmbppbaaGreatRe
import Derived.Test.YtecnbenlmbppbaaGreatRf
namespace Go.Proofs.YtecnbenlmbppbaaGreat.Rl
set_option maxRecDepth 8000
set_option linter.unusedSimpArgs false
set_option linter.unusedVariables false
open Go Go.RowKit
open Num Word Pl Rp
open Vl (ordRow V2 z2)

theorem ext2_ne {l m : RowL} {k : Nat} (h : l.getD k z2 ≠ m.getD k z2) : l ≠ m := fun e => h (by rw [e])

set_option maxHeartbeats 2000000 in
theorem same_any (a a' : Option Addr) (b off cap b' off' cap' : Nat) (l m : RowL) (w : World) (h : Vl.Rd w a b off l) (h' : Vl.Rd w a' b' off' m) :
    Calls Tryz.prog 74 #[.agg #[.slice a l.length cap], .agg #[.slice a' m.length cap']] w fun e w' => e = .returned (.bool (decide (l = m))) ∧ Below w.heap.size w w' := by
  obtain ⟨W1, hW1⟩ : ∃ W1, W1 = (w.alloc (.cells #[.slice a l.length cap] 64)).alloc (.cells #[.slice a' m.length cap'] 64) := ⟨_, rfl⟩
  have B1 : Below w.heap.size w W1 := by subst hW1; exact below_alloc2 _ _ _
  by_cases hlen : l.length = m.length
  · have k0 : W1.heap[w.heap.size]? = some (.cells #[.slice a l.length cap] 64 (0, 0)) := by subst hW1; rw [at_old (by simp), at_new rfl]
    have k1 : W1.heap[w.heap.size + 1]? = some (.cells #[.slice a' m.length cap'] 64 (0, 0)) := by subst hW1; rw [at_new (by simp)]
    obtain ⟨hh, hc, hs, hz⟩ := h.below B1
    obtain ⟨hh', hc', hs', hz'⟩ := h'.below B1
    clear h h' hz hz' hs'
    obtain ⟨R, hR⟩ : ∃ R, R = decide (l = m) := ⟨_, rfl⟩
    have HB : Hid (∀ k, l.getD k z2 ≠ m.getD k z2 → R = false) := fun k h => by rw [hR]; exact decide_eq_false (ext2_ne h)
    have HG : Hid ((∀ i, i < l.length → l.getD i z2 = m.getD i z2) → R = true) := fun h => by rw [hR]; exact decide_eq_true (Vl.ext2 hlen h)
    rw [← hR]
    clear hR
    rw [← hlen] at hh' hc' k1 hW1 ⊢
    obtain ⟨n, hn⟩ : ∃ n, n = l.length := ⟨_, rfl⟩
    rw [← hn] at hh hc hs hh' hc' k0 k1 HG hW1 ⊢
    clear hn hlen
    go_enter Tryz.func74, Tryz.ntmps74
    go_wp2
    rw [← hW1]
    clear hW1
    go_loopw [16] (fun i wr => ∃ k : Nat, k ≤ n ∧ i = .int .i64 k ∧ Below W1.heap.size W1 wr ∧ ∀ i, i < k → l.getD i z2 = m.getD i z2) (fun i _ => n - (intOf i).toNat)
    case atStart => exact ⟨0, Nat.zero_le _, rfl, Below.refl _ _, fun i hi => by omega⟩
    case round =>
      obtain ⟨k, hk, rfl, hbel, hpre⟩ := hrel
      have HP : Hid (∀ i, i < k → l.getD i z2 = m.getD i z2) := hpre
      clear hpre
      replace k0 := (hbel.block _ (blk_lt k0)).trans k0
      replace k1 := (hbel.block _ (blk_lt k1)).trans k1
      have p0 := one k0
      have p1 := one k1
      by_cases hlt : k < n
      · obtain rfl := hh (by omega)
        obtain rfl := hh' (by omega)
        have hkz : (k : Int) < (n : Int) := by omega
        have hk0 : (0 : Int) ≤ (k : Int) := by omega
        obtain ⟨c0, c1⟩ := (hc k hlt).of hbel (hc k hlt).lt
        obtain ⟨d0, d1⟩ := (hc' k hlt).of hbel (hc' k hlt).lt
        have HB1 : Hid (l.getD k z2 ≠ m.getD k z2 → R = false) := HB.out k
        have HX : Hid (l.getD k z2 = m.getD k z2 → ∀ i, i < k + 1 → l.getD i z2 = m.getD i z2) := fun h i hi => by
          by_cases e : i = k
          · subst e; exact h
          · exact HP.out i (by omega)
        clear hc hc' hh hh' HB
        generalize l.getD k z2 = x at c0 c1 HB1 HX
        generalize m.getD k z2 = y at d0 d1 HB1 HX
        obtain ⟨x0, x1⟩ := x
        obtain ⟨y0, y1⟩ := y
        simp only at c0 c1 d0 d1
        by_cases e0 : x0 = y0
        · subst e0
          by_cases e1 : x1 = y1
          · subst e1
            go_wp2
            go_quiet (fail)
            go_wp2
            go_roundw
            case rel => exact ⟨k + 1, by omega, by go_num, below_drewN hbel _, HX.out (by first | rfl | trivial)⟩
            case measure => simp [intOf]; omega
          · have hq : (x1.toList == y1.toList) = false := by
              rw [beq_eq_false_iff_ne]
              intro e
              rw [ByteArray.toList_eq, ByteArray.toList_eq] at e
              exact e1 (Go.WideShapes.bytes_inj e)
            have HQ : Hid (R = false) := HB1.out (by simp [e1])
            clear e1 HB1 HX
            go_wp2
            go_quiet (fail)
            go_wp2
            go_ret
            exact ⟨ret_bool HQ.out.symm, Rw.next B1 (below_drewN hbel _)⟩
        · have hn : (x0 == y0) = false := by simpa using e0
          have HQ : Hid (R = false) := HB1.out (by simp [e0])
          clear HB1 HX e0
          go_wp2
          go_quiet (fail)
          go_wp2
          go_ret
          exact ⟨ret_bool HQ.out.symm, Rw.next B1 (below_drewN hbel _)⟩
      · have he : k = n := by omega
        subst he
        go_wp2
        go_ret
        exact ⟨ret_bool (HG.out HP.out).symm, Rw.next B1 hbel⟩
  · have hne : ¬ ((l.length : Int) = (m.length : Int)) := by omega
    have hn1 : ((l.length : Int) != (m.length : Int)) = true := by simpa using hne
    have e : decide (l = m) = false := decide_eq_false (fun e => hlen (by rw [e]))
    rw [e]
    subst hW1
    clear e hlen
    go_enter Tryz.func74, Tryz.ntmps74
    go_wp2
    go_ret
    exact ⟨rfl, B1⟩

/-- Both RelHas. -/
def hasB (ar : Int) (R : List RowL) (m : RowL) : Bool := relB ar R && decide (m ∈ R)
end Go.Proofs.YtecnbenlmbppbaaGreat.Rl

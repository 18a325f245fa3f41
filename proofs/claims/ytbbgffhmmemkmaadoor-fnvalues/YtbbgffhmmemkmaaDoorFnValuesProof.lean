/- For every bytes the law FnValues returns true: of two drawn values one is less, or they are the same, and a text of a value is read again; the library's tables and errors start as the program's text lays them (the card ties them). -/
import Derived.Test.YtbbgffhmmemkmaaDoorRows
import Derived.Test.YtbbgffhmmemkmaaDoorCards
import Derived.Test.YtbbgffhmmemkmaaDoorTie
import Derived.Test.YtbbgffhmmemkmaaDoorDy
import Derived.ProofKit
import Derived.LaidMore
import Derived.OpenShut
import Derived.ShutString
import Derived.ChangeOld
import Derived.Stop.Joined
import Derived.Stop.LaidErr
import Derived.Lib.LaidTab
import Derived.Lib.SmallJoins
import Derived.SevenTiedAt
namespace Go.Proofs.YtbbgffhmmemkmaaDoor.fnValues
open Go.ChangeShapes Go.WideShapes Go.ChangeAt Go.RowKit
open Go.ChangeMaps (open_string shut_string)
set_option linter.unusedVariables false
set_option linter.unusedSimpArgs false

theorem own : ownKnob Tryd.prog.godebug = none := by kernel_rfl
theorem laidOut : laidOutB Tryd.prog = true := by kernel_rfl
theorem gES : Tryd.prog.globalNamed "strconv.ErrSyntax" = some 0 := by kernel_rfl
theorem gER : Tryd.prog.globalNamed "strconv.ErrRange" = some 1 := by kernel_rfl
theorem cells88 : Tryd.prog.cellsOf 88 = 1 := by kernel_rfl
theorem cells9 : Tryd.prog.cellsOf 9 = 1 := by kernel_rfl

set_option maxRecDepth 8000 in
set_option maxHeartbeats 16000000 in
theorem walk (a0 : Option Addr) (n0 c0 : Nat) (z0 : List Int) (w : World) (w0 : Rw.IsRow .u8 w a0 n0 c0 z0) (hL : Vl.Laid w) :
    Calls Tryd.prog 3 #[.slice a0 n0 c0] w fun e w' => e = .returned (.bool true) ∧ Below w.heap.size w w' := by
  by_cases hbig : 1048576 < n0
  · have hbz : (1048576 : Int) < (n0 : Int) := by omega
    go_enter Tryd.func3, Tryd.ntmps3
    go_wp2
    go_ret
    exact ⟨rfl, Below.refl _ _⟩
  have hbz : ¬ (1048576 : Int) < (n0 : Int) := by omega
  obtain ⟨b, off, l, hl, r0⟩ := Rw.rd_of_isRow w0 (by omega)
  subst hl
  clear w0 hbig
  go_enter Tryd.func3, Tryd.ntmps3
  go_wp2_with (go_at_call 5; refine (Dr.draw_any _ _ _ _ _ _ r0).mono ?_; rintro e w1 ⟨n, m, s, t, rfl, hs, ht, B0⟩)
  clear r0
  obtain ⟨W1, hW1⟩ : ∃ W1, W1 = (w1.alloc (.cells #[.int .i64 n, .string s] 24)).alloc (.cells #[.int .i64 m, .string t] 24) := ⟨_, rfl⟩
  have k0 : W1.heap[w1.heap.size]? = some (.cells #[.int .i64 n, .string s] 24 (0, 0)) := by subst hW1; rw [Pl.at_old (by simp), Pl.at_new rfl]
  have k1 : W1.heap[w1.heap.size + 1]? = some (.cells #[.int .i64 m, .string t] 24 (0, 0)) := by subst hW1; rw [Pl.at_new (by simp)]
  replace hL := hL.below B0
  replace B0 : Below w.heap.size w W1 := by subst hW1; exact Rw.next B0 (Pl.below_alloc2 _ _ _)
  replace hL : Vl.Laid W1 := by subst hW1; exact hL.below (Pl.below_alloc2 _ _ _)
  have hs' : s.size ≤ maxLen := by unfold maxLen; omega
  have ht' : t.size ≤ maxLen := by unfold maxLen; omega
  have hA := fun W => Vl.ok2I n s W hs'
  have hA' := fun W => Vl.ok2S n s W hs'
  have hB := fun W => Vl.ok2I m t W ht'
  have hB' := fun W => Vl.ok2S m t W ht'
  have hX := fun W => Vl.lessI_any n m s t W hs' ht'
  have hY := fun W => Vl.lessI_any m n t s W ht' hs'
  obtain ⟨p0, p1⟩ := Pl.two k0
  obtain ⟨q0, q1⟩ := Pl.two k1
  rw [← hW1]
  clear hW1
  generalize w1.heap.size = g at *
  have tx : True := trivial
  have ty : True := trivial
  cases hx : Vl.valB (n, s) with
  | false =>
    have e1 : Vl.vlessB (n, s) (m, t) = false := by unfold Vl.vlessB; rw [hx]; rfl
    have e2 : Vl.vlessB (m, t) (n, s) = false := by unfold Vl.vlessB; rw [hx]; simp
    rw [hx] at hA hA'
    rw [e1] at hX
    rw [e2] at hY
    clear e1 e2
    generalize Vl.valB (m, t) = R at hB hB'
    go_region_held3 (fun w' => w'.cell? ⟨g, 0, none⟩ = some (.int .i64 n) ∧ w'.cell? ⟨g, 1, none⟩ = some (.string s) ∧ w'.cell? ⟨g + 1, 0, none⟩ = some (.int .i64 m) ∧ w'.cell? ⟨g + 1, 1, none⟩ = some (.string t)) (go_keep) (first
      | (go_at_call 6; clear tx; refine (hA _).mono ?_; rintro e v1 ⟨rfl, hb⟩; replace hb := Rw.next ((Below.refl _ _).drew) hb; clear p0 p1 q0 q1; replace B0 := Rw.next B0 hb; replace k0 := (hb.block _ (Pl.blk_lt k0)).trans k0; replace k1 := (hb.block _ (Pl.blk_lt k1)).trans k1; replace hL := hL.below hb; clear hb; obtain ⟨p0, p1⟩ := Pl.two k0; obtain ⟨q0, q1⟩ := Pl.two k1)
      | (go_at_call 7; clear ty; refine (hA' _).mono ?_; rintro e v1 ⟨rfl, hb⟩; clear p0 p1 q0 q1; replace B0 := Rw.next B0 hb; replace k0 := (hb.block _ (Pl.blk_lt k0)).trans k0; replace k1 := (hb.block _ (Pl.blk_lt k1)).trans k1; replace hL := hL.below hb; clear hb; obtain ⟨p0, p1⟩ := Pl.two k0; obtain ⟨q0, q1⟩ := Pl.two k1)
      | (go_at_call 6; refine (hB _).mono ?_; rintro e v1 ⟨rfl, hb⟩; clear p0 p1 q0 q1; replace B0 := Rw.next B0 hb; replace k0 := (hb.block _ (Pl.blk_lt k0)).trans k0; replace k1 := (hb.block _ (Pl.blk_lt k1)).trans k1; replace hL := hL.below hb; clear hb; obtain ⟨p0, p1⟩ := Pl.two k0; obtain ⟨q0, q1⟩ := Pl.two k1)
      | (go_at_call 7; refine (hB' _).mono ?_; rintro e v1 ⟨rfl, hb⟩; clear p0 p1 q0 q1; replace B0 := Rw.next B0 hb; replace k0 := (hb.block _ (Pl.blk_lt k0)).trans k0; replace k1 := (hb.block _ (Pl.blk_lt k1)).trans k1; replace hL := hL.below hb; clear hb; obtain ⟨p0, p1⟩ := Pl.two k0; obtain ⟨q0, q1⟩ := Pl.two k1))
    have tz : True := trivial
    go_wp2_with (first
      | (go_at_call 6; refine (hA _).mono ?_; rintro e v1 ⟨rfl, hb⟩; clear p0 p1 q0 q1; replace B0 := Rw.next B0 hb; replace k0 := (hb.block _ (Pl.blk_lt k0)).trans k0; replace k1 := (hb.block _ (Pl.blk_lt k1)).trans k1; replace hL := hL.below hb; clear hb; obtain ⟨p0, p1⟩ := Pl.two k0; obtain ⟨q0, q1⟩ := Pl.two k1)
      | (go_at_call 8; clear tz; refine (hX _).mono ?_; rintro e v1 ⟨rfl, hb⟩; clear p0 p1 q0 q1; replace B0 := Rw.next B0 hb; replace k0 := (hb.block _ (Pl.blk_lt k0)).trans k0; replace k1 := (hb.block _ (Pl.blk_lt k1)).trans k1; replace hL := hL.below hb; clear hb; obtain ⟨p0, p1⟩ := Pl.two k0; obtain ⟨q0, q1⟩ := Pl.two k1)
      | (go_at_call 8; refine (hY _).mono ?_; rintro e v1 ⟨rfl, hb⟩; clear p0 p1 q0 q1; replace B0 := Rw.next B0 hb; replace k0 := (hb.block _ (Pl.blk_lt k0)).trans k0; replace k1 := (hb.block _ (Pl.blk_lt k1)).trans k1; replace hL := hL.below hb; clear hb; obtain ⟨p0, p1⟩ := Pl.two k0; obtain ⟨q0, q1⟩ := Pl.two k1))
    go_ret
    exact ⟨rfl, B0⟩
  | true =>
    cases hy : Vl.valB (m, t) with
    | false =>
      have e1 : Vl.vlessB (n, s) (m, t) = false := by unfold Vl.vlessB; rw [hy]; simp
      have e2 : Vl.vlessB (m, t) (n, s) = false := by unfold Vl.vlessB; rw [hy]; rfl
      rw [hx] at hA hA'
      rw [hy] at hB hB'
      rw [e1] at hX
      rw [e2] at hY
      clear e1 e2
      go_region_held3 (fun w' => w'.cell? ⟨g, 0, none⟩ = some (.int .i64 n) ∧ w'.cell? ⟨g, 1, none⟩ = some (.string s) ∧ w'.cell? ⟨g + 1, 0, none⟩ = some (.int .i64 m) ∧ w'.cell? ⟨g + 1, 1, none⟩ = some (.string t)) (go_keep) (first
        | (go_at_call 6; clear tx; refine (hA _).mono ?_; rintro e v1 ⟨rfl, hb⟩; replace hb := Rw.next ((Below.refl _ _).drew) hb; clear p0 p1 q0 q1; replace B0 := Rw.next B0 hb; replace k0 := (hb.block _ (Pl.blk_lt k0)).trans k0; replace k1 := (hb.block _ (Pl.blk_lt k1)).trans k1; replace hL := hL.below hb; clear hb; obtain ⟨p0, p1⟩ := Pl.two k0; obtain ⟨q0, q1⟩ := Pl.two k1)
        | (go_at_call 7; clear ty; refine (hA' _).mono ?_; rintro e v1 ⟨rfl, hb⟩; clear p0 p1 q0 q1; replace B0 := Rw.next B0 hb; replace k0 := (hb.block _ (Pl.blk_lt k0)).trans k0; replace k1 := (hb.block _ (Pl.blk_lt k1)).trans k1; replace hL := hL.below hb; clear hb; obtain ⟨p0, p1⟩ := Pl.two k0; obtain ⟨q0, q1⟩ := Pl.two k1)
        | (go_at_call 6; refine (hB _).mono ?_; rintro e v1 ⟨rfl, hb⟩; clear p0 p1 q0 q1; replace B0 := Rw.next B0 hb; replace k0 := (hb.block _ (Pl.blk_lt k0)).trans k0; replace k1 := (hb.block _ (Pl.blk_lt k1)).trans k1; replace hL := hL.below hb; clear hb; obtain ⟨p0, p1⟩ := Pl.two k0; obtain ⟨q0, q1⟩ := Pl.two k1)
        | (go_at_call 7; refine (hB' _).mono ?_; rintro e v1 ⟨rfl, hb⟩; clear p0 p1 q0 q1; replace B0 := Rw.next B0 hb; replace k0 := (hb.block _ (Pl.blk_lt k0)).trans k0; replace k1 := (hb.block _ (Pl.blk_lt k1)).trans k1; replace hL := hL.below hb; clear hb; obtain ⟨p0, p1⟩ := Pl.two k0; obtain ⟨q0, q1⟩ := Pl.two k1))
      have tz : True := trivial
      have tw : True := trivial
      go_wp2_with (first
        | (go_at_call 6; clear tw; refine (hA _).mono ?_; rintro e v1 ⟨rfl, hb⟩; clear p0 p1 q0 q1; replace B0 := Rw.next B0 hb; replace k0 := (hb.block _ (Pl.blk_lt k0)).trans k0; replace k1 := (hb.block _ (Pl.blk_lt k1)).trans k1; replace hL := hL.below hb; clear hb; obtain ⟨p0, p1⟩ := Pl.two k0; obtain ⟨q0, q1⟩ := Pl.two k1)
        | (go_at_call 6; refine (hB _).mono ?_; rintro e v1 ⟨rfl, hb⟩; clear p0 p1 q0 q1; replace B0 := Rw.next B0 hb; replace k0 := (hb.block _ (Pl.blk_lt k0)).trans k0; replace k1 := (hb.block _ (Pl.blk_lt k1)).trans k1; replace hL := hL.below hb; clear hb; obtain ⟨p0, p1⟩ := Pl.two k0; obtain ⟨q0, q1⟩ := Pl.two k1)
        | (go_at_call 8; clear tz; refine (hX _).mono ?_; rintro e v1 ⟨rfl, hb⟩; clear p0 p1 q0 q1; replace B0 := Rw.next B0 hb; replace k0 := (hb.block _ (Pl.blk_lt k0)).trans k0; replace k1 := (hb.block _ (Pl.blk_lt k1)).trans k1; replace hL := hL.below hb; clear hb; obtain ⟨p0, p1⟩ := Pl.two k0; obtain ⟨q0, q1⟩ := Pl.two k1)
        | (go_at_call 8; refine (hY _).mono ?_; rintro e v1 ⟨rfl, hb⟩; clear p0 p1 q0 q1; replace B0 := Rw.next B0 hb; replace k0 := (hb.block _ (Pl.blk_lt k0)).trans k0; replace k1 := (hb.block _ (Pl.blk_lt k1)).trans k1; replace hL := hL.below hb; clear hb; obtain ⟨p0, p1⟩ := Pl.two k0; obtain ⟨q0, q1⟩ := Pl.two k1))
      go_ret
      exact ⟨rfl, B0⟩
    | true =>
      have hT := fun W h => Vl.vtext_any n s W hx hs' h
      have hv := Vl.tv_vtx hx
      have hV := fun W h => Vl.tvI_any (Vl.vtx (n, s)) W hv.2.2.2 h
      rw [hv.1, hv.2.1, hv.2.2.1] at hV
      have h3 := Vl.three_ways hx hy
      unfold Vl.vlessB at hX hY
      rw [hx] at hA hA'
      rw [hy] at hB hB'
      rw [hx, hy] at hX hY
      simp only [Bool.true_and] at hX hY
      generalize Vl.lessB (n, s) (m, t) = L1 at hX h3
      generalize Vl.lessB (m, t) (n, s) = L2 at hY h3
      clear hv
      generalize Vl.vtx (n, s) = tt at hT hV
      have H3 : Hid ((L1 = true ∧ L2 = false ∧ ¬ (n = m ∧ s = t)) ∨ (L1 = false ∧ L2 = true ∧ ¬ (n = m ∧ s = t)) ∨ (L1 = false ∧ L2 = false ∧ n = m ∧ s = t)) := h3
      clear h3
      go_region_held3 (fun w' => w'.cell? ⟨g, 0, none⟩ = some (.int .i64 n) ∧ w'.cell? ⟨g, 1, none⟩ = some (.string s) ∧ w'.cell? ⟨g + 1, 0, none⟩ = some (.int .i64 m) ∧ w'.cell? ⟨g + 1, 1, none⟩ = some (.string t)) (go_keep) (first
        | (go_at_call 6; clear tx; refine (hA _).mono ?_; rintro e v1 ⟨rfl, hb⟩; replace hb := Rw.next ((Below.refl _ _).drew) hb; clear p0 p1 q0 q1; replace B0 := Rw.next B0 hb; replace k0 := (hb.block _ (Pl.blk_lt k0)).trans k0; replace k1 := (hb.block _ (Pl.blk_lt k1)).trans k1; replace hL := hL.below hb; clear hb; obtain ⟨p0, p1⟩ := Pl.two k0; obtain ⟨q0, q1⟩ := Pl.two k1)
        | (go_at_call 7; clear ty; refine (hA' _).mono ?_; rintro e v1 ⟨rfl, hb⟩; clear p0 p1 q0 q1; replace B0 := Rw.next B0 hb; replace k0 := (hb.block _ (Pl.blk_lt k0)).trans k0; replace k1 := (hb.block _ (Pl.blk_lt k1)).trans k1; replace hL := hL.below hb; clear hb; obtain ⟨p0, p1⟩ := Pl.two k0; obtain ⟨q0, q1⟩ := Pl.two k1)
        | (go_at_call 6; refine (hB _).mono ?_; rintro e v1 ⟨rfl, hb⟩; clear p0 p1 q0 q1; replace B0 := Rw.next B0 hb; replace k0 := (hb.block _ (Pl.blk_lt k0)).trans k0; replace k1 := (hb.block _ (Pl.blk_lt k1)).trans k1; replace hL := hL.below hb; clear hb; obtain ⟨p0, p1⟩ := Pl.two k0; obtain ⟨q0, q1⟩ := Pl.two k1)
        | (go_at_call 7; refine (hB' _).mono ?_; rintro e v1 ⟨rfl, hb⟩; clear p0 p1 q0 q1; replace B0 := Rw.next B0 hb; replace k0 := (hb.block _ (Pl.blk_lt k0)).trans k0; replace k1 := (hb.block _ (Pl.blk_lt k1)).trans k1; replace hL := hL.below hb; clear hb; obtain ⟨p0, p1⟩ := Pl.two k0; obtain ⟨q0, q1⟩ := Pl.two k1))
      have tz : True := trivial
      have tw : True := trivial
      go_wp2_with (first
        | (go_at_call 6; clear tw; refine (hA _).mono ?_; rintro e v1 ⟨rfl, hb⟩; clear p0 p1 q0 q1; replace B0 := Rw.next B0 hb; replace k0 := (hb.block _ (Pl.blk_lt k0)).trans k0; replace k1 := (hb.block _ (Pl.blk_lt k1)).trans k1; replace hL := hL.below hb; clear hb; obtain ⟨p0, p1⟩ := Pl.two k0; obtain ⟨q0, q1⟩ := Pl.two k1)
        | (go_at_call 6; refine (hB _).mono ?_; rintro e v1 ⟨rfl, hb⟩; clear p0 p1 q0 q1; replace B0 := Rw.next B0 hb; replace k0 := (hb.block _ (Pl.blk_lt k0)).trans k0; replace k1 := (hb.block _ (Pl.blk_lt k1)).trans k1; replace hL := hL.below hb; clear hb; obtain ⟨p0, p1⟩ := Pl.two k0; obtain ⟨q0, q1⟩ := Pl.two k1)
        | (go_at_call 10; refine (hT _ hL).mono ?_; rintro e v1 ⟨rfl, hb⟩; clear p0 p1 q0 q1; replace B0 := Rw.next B0 hb; replace k0 := (hb.block _ (Pl.blk_lt k0)).trans k0; replace k1 := (hb.block _ (Pl.blk_lt k1)).trans k1; replace hL := hL.below hb; clear hb; obtain ⟨p0, p1⟩ := Pl.two k0; obtain ⟨q0, q1⟩ := Pl.two k1)
        | (go_at_call 9; refine (hV _ hL).mono ?_; rintro e v2 ⟨rfl, hb⟩; clear p0 p1 q0 q1; replace B0 := Rw.next B0 hb; replace k0 := (hb.block _ (Pl.blk_lt k0)).trans k0; replace k1 := (hb.block _ (Pl.blk_lt k1)).trans k1; replace hL := hL.below hb; clear hb; obtain ⟨p0, p1⟩ := Pl.two k0; obtain ⟨q0, q1⟩ := Pl.two k1; have lg := Pl.blk_lt k1; have lg0 := Pl.blk_lt k0)
        | (go_at_call 8; clear tz; fail))
      obtain ⟨W2, hW2⟩ : ∃ W2, W2 = v2.alloc (.cells #[.int .i64 n, .string s] 24) := ⟨_, rfl⟩
      have k2 : W2.heap[v2.heap.size]? = some (.cells #[.int .i64 n, .string s] 24 (0, 0)) := by subst hW2; exact Pl.at_new rfl
      have hb : Below v2.heap.size v2 W2 := by subst hW2; exact Pl.below_alloc1 _ _
      replace B0 := Rw.next B0 hb
      replace k0 := (hb.block _ (Pl.blk_lt k0)).trans k0
      replace k1 := (hb.block _ (Pl.blk_lt k1)).trans k1
      clear hb p0 p1 q0 q1 lg lg0 hL
      generalize v2.heap.size = g2 at *
      have tv : True := trivial
      have fin : ∀ (a b : ByteArray), ¬ a = b → (a.toList == b.toList) = false := fun a b h => by
        rw [beq_eq_false_iff_ne]; intro e; rw [ByteArray.toList_eq, ByteArray.toList_eq] at e; exact h (Go.WideShapes.bytes_inj e)
      have h3 := H3.out
      clear H3
      rcases h3 with ⟨rfl, rfl, hne⟩ | ⟨rfl, rfl, hne⟩ | ⟨rfl, rfl, rfl, rfl⟩
      · by_cases hn : n = m
        · have hq := fin s t (fun e => hne ⟨hn, e⟩)
          subst hn
          clear hne fin
          go_wp2_with (first
            | (go_at_call 8; clear tv; rw [← hW2]; clear hW2; refine (hX _).mono ?_; rintro e v3 ⟨rfl, hb⟩; replace B0 := Rw.next B0 hb; replace k0 := (hb.block _ (Pl.blk_lt k0)).trans k0; replace k1 := (hb.block _ (Pl.blk_lt k1)).trans k1; replace k2 := (hb.block _ (Pl.blk_lt k2)).trans k2; clear hb; obtain ⟨p0, p1⟩ := Pl.two k0; obtain ⟨q0, q1⟩ := Pl.two k1; obtain ⟨r0, r1⟩ := Pl.two k2)
            | (go_at_call 8; refine (hY _).mono ?_; rintro e v3 ⟨rfl, hb⟩; clear p0 p1 q0 q1 r0 r1; replace B0 := Rw.next B0 hb; replace k0 := (hb.block _ (Pl.blk_lt k0)).trans k0; replace k1 := (hb.block _ (Pl.blk_lt k1)).trans k1; replace k2 := (hb.block _ (Pl.blk_lt k2)).trans k2; clear hb; obtain ⟨p0, p1⟩ := Pl.two k0; obtain ⟨q0, q1⟩ := Pl.two k1; obtain ⟨r0, r1⟩ := Pl.two k2))
          go_ret
          exact ⟨rfl, B0⟩
        · have hq : (n == m) = false := by rw [beq_eq_false_iff_ne]; exact hn
          clear hne fin
          go_wp2_with (first
            | (go_at_call 8; clear tv; rw [← hW2]; clear hW2; refine (hX _).mono ?_; rintro e v3 ⟨rfl, hb⟩; replace B0 := Rw.next B0 hb; replace k0 := (hb.block _ (Pl.blk_lt k0)).trans k0; replace k1 := (hb.block _ (Pl.blk_lt k1)).trans k1; replace k2 := (hb.block _ (Pl.blk_lt k2)).trans k2; clear hb; obtain ⟨p0, p1⟩ := Pl.two k0; obtain ⟨q0, q1⟩ := Pl.two k1; obtain ⟨r0, r1⟩ := Pl.two k2)
            | (go_at_call 8; refine (hY _).mono ?_; rintro e v3 ⟨rfl, hb⟩; clear p0 p1 q0 q1 r0 r1; replace B0 := Rw.next B0 hb; replace k0 := (hb.block _ (Pl.blk_lt k0)).trans k0; replace k1 := (hb.block _ (Pl.blk_lt k1)).trans k1; replace k2 := (hb.block _ (Pl.blk_lt k2)).trans k2; clear hb; obtain ⟨p0, p1⟩ := Pl.two k0; obtain ⟨q0, q1⟩ := Pl.two k1; obtain ⟨r0, r1⟩ := Pl.two k2))
          go_ret
          exact ⟨rfl, B0⟩
      · by_cases hn : n = m
        · have hq := fin s t (fun e => hne ⟨hn, e⟩)
          subst hn
          clear hne fin
          go_wp2_with (first
            | (go_at_call 8; clear tv; rw [← hW2]; clear hW2; refine (hX _).mono ?_; rintro e v3 ⟨rfl, hb⟩; replace B0 := Rw.next B0 hb; replace k0 := (hb.block _ (Pl.blk_lt k0)).trans k0; replace k1 := (hb.block _ (Pl.blk_lt k1)).trans k1; replace k2 := (hb.block _ (Pl.blk_lt k2)).trans k2; clear hb; obtain ⟨p0, p1⟩ := Pl.two k0; obtain ⟨q0, q1⟩ := Pl.two k1; obtain ⟨r0, r1⟩ := Pl.two k2)
            | (go_at_call 8; refine (hY _).mono ?_; rintro e v3 ⟨rfl, hb⟩; clear p0 p1 q0 q1 r0 r1; replace B0 := Rw.next B0 hb; replace k0 := (hb.block _ (Pl.blk_lt k0)).trans k0; replace k1 := (hb.block _ (Pl.blk_lt k1)).trans k1; replace k2 := (hb.block _ (Pl.blk_lt k2)).trans k2; clear hb; obtain ⟨p0, p1⟩ := Pl.two k0; obtain ⟨q0, q1⟩ := Pl.two k1; obtain ⟨r0, r1⟩ := Pl.two k2))
          go_ret
          exact ⟨rfl, B0⟩
        · have hq : (n == m) = false := by rw [beq_eq_false_iff_ne]; exact hn
          clear hne fin
          go_wp2_with (first
            | (go_at_call 8; clear tv; rw [← hW2]; clear hW2; refine (hX _).mono ?_; rintro e v3 ⟨rfl, hb⟩; replace B0 := Rw.next B0 hb; replace k0 := (hb.block _ (Pl.blk_lt k0)).trans k0; replace k1 := (hb.block _ (Pl.blk_lt k1)).trans k1; replace k2 := (hb.block _ (Pl.blk_lt k2)).trans k2; clear hb; obtain ⟨p0, p1⟩ := Pl.two k0; obtain ⟨q0, q1⟩ := Pl.two k1; obtain ⟨r0, r1⟩ := Pl.two k2)
            | (go_at_call 8; refine (hY _).mono ?_; rintro e v3 ⟨rfl, hb⟩; clear p0 p1 q0 q1 r0 r1; replace B0 := Rw.next B0 hb; replace k0 := (hb.block _ (Pl.blk_lt k0)).trans k0; replace k1 := (hb.block _ (Pl.blk_lt k1)).trans k1; replace k2 := (hb.block _ (Pl.blk_lt k2)).trans k2; clear hb; obtain ⟨p0, p1⟩ := Pl.two k0; obtain ⟨q0, q1⟩ := Pl.two k1; obtain ⟨r0, r1⟩ := Pl.two k2))
          go_ret
          exact ⟨rfl, B0⟩
      · clear fin
        go_wp2_with (first
          | (go_at_call 8; clear tv; rw [← hW2]; clear hW2; refine (hX _).mono ?_; rintro e v3 ⟨rfl, hb⟩; replace B0 := Rw.next B0 hb; replace k0 := (hb.block _ (Pl.blk_lt k0)).trans k0; replace k1 := (hb.block _ (Pl.blk_lt k1)).trans k1; replace k2 := (hb.block _ (Pl.blk_lt k2)).trans k2; clear hb; obtain ⟨p0, p1⟩ := Pl.two k0; obtain ⟨q0, q1⟩ := Pl.two k1; obtain ⟨r0, r1⟩ := Pl.two k2)
          | (go_at_call 8; refine (hY _).mono ?_; rintro e v3 ⟨rfl, hb⟩; clear p0 p1 q0 q1 r0 r1; replace B0 := Rw.next B0 hb; replace k0 := (hb.block _ (Pl.blk_lt k0)).trans k0; replace k1 := (hb.block _ (Pl.blk_lt k1)).trans k1; replace k2 := (hb.block _ (Pl.blk_lt k2)).trans k2; clear hb; obtain ⟨p0, p1⟩ := Pl.two k0; obtain ⟨q0, q1⟩ := Pl.two k1; obtain ⟨r0, r1⟩ := Pl.two k2))
        go_ret
        exact ⟨rfl, B0⟩

theorem star : "*" ++ "errors.errorString" = "*errors.errorString" := by decide
theorem row86 (u : TypeId) (h : Tryd.prog.typeName? 3 u = some "*errors.errorString") : u = 86 :=
  typeName_ptr_named (nm := "errors.errorString") (by rw [star]; kernel_rfl) (by kernel_rfl) (by decide) u (by rw [star]; exact h)

theorem door_met (os : Os) (args : Array Value) : laidMetH Tryd.prog Rows.fnValuesRow.laid ((World.doorLaid Tryd.prog 62 os).forCall (fun _ _ => 0) ⟨#[], args, []⟩).memory :=
  laidMetH_of_parts3 (fuel := 8) (laidMet_of_run' 8 (by kernel_rfl) (by kernel_rfl)) (by kernel_rfl) (by kernel_rfl)

theorem laid_of {W : World} (h : laidMetH Tryd.prog Rows.fnValuesRow.laid W) : Vl.Laid W := by
  rw [MakeChecks.laidMetH_plain _ _ _ (by kernel_rfl)] at h
  have h2 : laidMet Tryd.prog (("internal/strconv.uint64pow10", Lib.tabData .u64 Lib.pow10Tab) :: [("strconv.ErrRange", Rows.laid_strconv_ErrRange), ("strconv.ErrSyntax", Rows.laid_strconv_ErrSyntax)]) W := laidMet.tail (laidMet.tail h)
  have htab := Lib.tabIs_of_head Tn.gPow (t := 95) (by kernel_rfl) Tryd.underlying95 Tryd.underlying76 (by kernel_rfl) (by kernel_rfl) h2
  have h3 := laidMet.tail h2
  obtain ⟨a1, s1, hv1, -, -, -⟩ := laid_sentinel h3 gER (ti := 56) (by kernel_rfl) Tryd.underlying56 row86 Tryd.underlying86 Tryd.underlying88 rfl rfl Tryd.underlying9 cells88 cells9
  obtain ⟨a0, s0, hv0, -, -, -⟩ := laid_sentinel (laidMet.tail h3) gES (ti := 56) (by kernel_rfl) Tryd.underlying56 row86 Tryd.underlying86 Tryd.underlying88 rfl rfl Tryd.underlying9 cells88 cells9
  exact ⟨htab, ⟨_, _, by have q := World.var?_cell gES hv0 0; simpa using q⟩, ⟨_, _, by have q := World.var?_cell gER hv1 0; simpa using q⟩⟩

set_option maxRecDepth 100000 in
theorem lifted (os : Os) (started : os.Started) (H : Type) (enc : TypeId × Value → H) :
    ReturnsInHanded {} Tryd.checked os 3 .any (fun w args => (Rows.fnValuesSpec.pre enc Tryd.prog Tryd.f3 Rows.fnValuesRow.domain false w args ∧ laidMetH Tryd.prog Rows.fnValuesRow.laid w) ∧ sizedMet enc Tryd.prog Tryd.f3 (OpenSpec.ofChange Rows.fnValuesSpec) false w args)
      (Rows.fnValuesSpec.post enc Tryd.prog Tryd.f3 false true false false) := by
  refine returnsInHanded_of_change_and (C := Tryd.checked) (X := fun w _ => laidMetH Tryd.prog Rows.fnValuesRow.laid w) (fun _ _ _ hh h => h.of_heap hh) own started (by kernel_rfl) Tryd.func3
    (ChangeSpec.witness_shaped (enc := enc) (C := Tryd.checked) (os := os) (X := fun w _ => laidMetH Tryd.prog Rows.fnValuesRow.laid w) false (World.doorLaid Tryd.prog 62 os) #[.slice none 0 0] 8 rfl (World.shaped_of_RefB (by kernel_rfl) (by kernel_rfl)) (by kernel_rfl) (by kernel_rfl) (by kernel_rfl) (door_met os _)) ?_
  intro W base args ds gs before hval0 hW _ _ hL _
  have hval : ∀ (j : Nat) t v, Tryd.f3.params[j]? = some t → args[j]? = some v → Value.okWide Tryd.prog W .any base t v := hval0
  have hW' := hW
  obtain ⟨p, q, hA0, hV, rfl, hfz, hnd⟩ := hW
  have hA : DataW.TrodAll enc Tryd.prog W 0 (fun _ => true) true Tryd.f3.params.toList args.toList ds p := hA0
  rw [Tryd.params3] at hA hval
  obtain ⟨v0, d0, rfl, rfl, h0⟩ := trodAll_one hA
  obtain ⟨rfl, rfl⟩ := trodVars_none hV
  have k0 := h0
  have lt0 : ∀ x ∈ p, x.block < W.heap.size := by obtain ⟨m, hm⟩ := k0; exact DataW.trod_lt m _ _ _ hm
  obtain ⟨a0, n0, c0, rfl⟩ := okWide_slice Tryd.underlying22 (hval 0 22 v0 rfl rfl)
  obtain ⟨z0, w0⟩ : ∃ zs, Rw.IsRow .u8 W a0 n0 c0 zs := by
    obtain ⟨fuel, hf⟩ := h0
    rcases open_ints Tryd.underlying22 Tryd.underlying5 (by kernel_rfl) hf with ⟨hcs, _⟩ | ⟨x, l, c, zs, hcs, _, hl, hm, hz, _, hcell, hwz⟩
    · simp [Value.cells] at hcs
      obtain ⟨rfl, rfl, rfl⟩ := hcs
      exact ⟨[], .inl ⟨rfl, rfl, rfl, rfl⟩⟩
    · simp [Value.cells] at hcs
      obtain ⟨rfl, rfl, rfl⟩ := hcs
      exact ⟨zs, .inr ⟨_, rfl, hl, hm, by simpa using hz, hcell, hwz⟩⟩
  have hLaid := laid_of hL
  clear hA0 hval0
  simp only [List.append_nil] at hW'
  refine (walk a0 n0 c0 z0 W w0 hLaid).mono fun e W' ⟨he, bel⟩ => ?_
  subst he
  exact ⟨_, rfl, _, _, _, [], _, [], hW', trodAll_mk1 (shut_bool Tryd.underlying4 _), trodAll_mk1 (Below.trod laidOut (by kernel_rfl) (of_decide_eq_true (by kernel_rfl)) k0 bel lt0), rfl, bel.frame _, fun h => by cases h⟩

theorem row_holds : Rows.FnValuesSaid :=
  OpenClaim.holds_of_wide 3 Tryd.f3 rfl rfl rfl rfl rfl rfl rfl ⟨rfl, rfl, rfl, rfl, rfl⟩ rfl rfl rfl rfl rfl (by kernel_rfl) Tryd.func3 (by kernel_rfl)
    (of_decide_eq_true (by kernel_rfl)) (by unfold Func.isWrapper; first | (rw [if_pos (by decide +kernel)]; kernel_rfl) | (rw [if_neg (by decide +kernel)]; exact ⟨rfl, rfl⟩))
    (fun os started H enc _ => lifted os started H enc)

theorem card_holds : Rows.FnValuesCardSaid :=
  Claim7.holds_tied_plain_at .later [] [.data, .data, .data, .sentinel, .sentinel] true (true, "b9d10c7401eb6a0fa535da65fb86b58d6e15bfb87de730975b2c8fe920fa121d") true
    row_holds (fun _ h => by cases h) (by kernel_rfl) (fun _ h => by cases h) fnValues_row_tie rfl ⟨rfl, rfl⟩ (by kernel_rfl) rfl
    (fun f fn hf hfn => by
      obtain rfl : f = 3 := Option.some.inj ((show Tryd.prog.funcNamed "loop.example/g00391/laws.FnValues" = some 3 by kernel_rfl).symm.trans hf) |>.symm
      obtain rfl : fn = Tryd.f3 := (Option.some.inj (Tryd.func3.symm.trans hfn)).symm
      exact ⟨by kernel_rfl, fun j t ht => by
        rw [Tryd.params3] at ht
        have hm : t ∈ [22] := by simpa using Array.mem_of_getElem? ht
        have hall : ([22].all fun u => !Tryd.prog.wantsStandIn u) = true := by kernel_rfl
        exact (show Tryd.prog.wantsStandIn t = false by simpa using List.all_eq_true.1 hall t hm)⟩)
    (by kernel_rfl)
end Go.Proofs.YtbbgffhmmemkmaaDoor.fnValues

namespace Go.Proofs.YtbbgffhmmemkmaaDoor
theorem FnValues_holds : Rows.FnValuesCardSaid := fnValues.card_holds
end Go.Proofs.YtbbgffhmmemkmaaDoor

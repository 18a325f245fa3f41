/-
  The program's code of one rule.
-/
import Derived.Test.YtljlgjgfmgilaaaGreatNi
namespace Go.Proofs.YtljlgjgfmgilaaaGreat.Nq
set_option maxRecDepth 8000
set_option linter.unusedSimpArgs false
set_option linter.unusedVariables false
open Go Go.ChangeShapes Go.WideShapes Go.RowKit
open Num Pl Pm
open Nb (Mem)

theorem codeI_eq (L : List Nv) (r : RuL) : codeI L r = if (atoms r).any (lacksB L) then 3 else if (atoms r).any (otherB L) then 4 else if !fitsB L r then 5 else if r.2.2.any (fwdB L) then 6 else if !newsFits L r then 7 else 0 := rfl
set_option maxHeartbeats 8000000 in
theorem codeI_any (r : Rm) (b : Nat) (L : List Nv) (w : World) (hx : r.Ok 0 w) (hm : Mem w b L) (hl : r.B.Q.length ≤ 8) : Calls Tryz.prog 25 #[.map (some b), .agg #[.int .i64 r.k, .string r.h.s, .slice r.h.A.a r.h.A.Q.length r.h.A.c, .slice r.B.a r.B.Q.length r.B.c]] w fun e w' => e = .returned (.int .i64 (codeI L r.l : Nat)) ∧ Below w.heap.size w w' := by
  have HC : Hid (codeI L r.l = if (atoms r.l).any (lacksB L) then 3 else if (atoms r.l).any (otherB L) then 4 else if !fitsB L r.l then 5 else if (told kdLm r.B.Q).any (fwdB L) then 6 else if !newsFits L r.l then 7 else 0) := rfl
  generalize codeI L r.l = A at HC ⊢
  obtain ⟨W1, hW1⟩ : ∃ W1, W1 = w.alloc (.cells #[.int .i64 r.k, .string r.h.s, .slice r.h.A.a r.h.A.Q.length r.h.A.c, .slice r.B.a r.B.Q.length r.B.c] 55) := ⟨_, rfl⟩
  have B : Below w.heap.size w W1 := by rw [hW1]; exact below_alloc1 _ _
  have k0 : W1.heap[w.heap.size]? = some (.cells #[.int .i64 r.k, .string r.h.s, .slice r.h.A.a r.h.A.Q.length r.h.A.c, .slice r.B.a r.B.Q.length r.B.c] 55 (0, 0)) := by rw [hW1]; exact at_new rfl
  obtain ⟨r0, r1, r2, r3⟩ := four k0
  have HO : Hid (r.Ok 0 W1) := ⟨hx.1.below B, hx.2.below B⟩
  have HM : Hid (Mem W1 b L) := hm.below B
  have hAt := atomsI_any r W1 HO.out hl
  have h3 : ∀ s W, Rd kdHa 0 W s → Mem W b L → told kdHa s.Q = atoms r.l → Calls Tryz.prog 51 #[.slice s.a s.Q.length s.c, .func (.func 52) #[.map (some b)] #[]] W fun e w' => e = .returned (.bool ((atoms r.l).any (lacksB L))) ∧ Below W.heap.size W w' := fun s W hs h ht => by rw [← ht]; exact contains_lacks s b L W hs h
  have h4 : ∀ s W, Rd kdHa 0 W s → Mem W b L → told kdHa s.Q = atoms r.l → Calls Tryz.prog 51 #[.slice s.a s.Q.length s.c, .func (.func 53) #[.map (some b)] #[]] W fun e w' => e = .returned (.bool ((atoms r.l).any (otherB L))) ∧ Below W.heap.size W w' := fun s W hs h ht => by rw [← ht]; exact contains_other s b L W hs h
  have h5 := fun W (h : r.Ok 0 W) (h' : Mem W b L) => fits_any r b L W h.1.1 h'
  have h6 := fun W (h : r.Ok 0 W) (h' : Mem W b L) => contains_fwd r.B b L W h.2 h'
  have h7 := fun W (h : r.Ok 0 W) (h' : Mem W b L) => newsFits_any r b L W h h'
  generalize (atoms r.l).any (lacksB L) = R3 at HC h3
  generalize (atoms r.l).any (otherB L) = R4 at HC h4
  generalize fitsB L r.l = R5 at HC h5
  generalize (told kdLm r.B.Q).any (fwdB L) = R6 at HC h6
  generalize newsFits L r.l = R7 at HC h7
  clear hx hm
  cases R3 with
  | true =>
    have HA : Hid (A = 3) := HC.out
    clear HC
    go_enter Tryz.func25, Tryz.ntmps25
    go_wp2_with (first
      | (go_at_call 50; rw [← hW1]; clear hW1; refine hAt.mono ?_; rintro e w1 ⟨hb, s, rfl, hs, hT, hn⟩; have HT : Hid (told kdHa s.Q = atoms r.l) := hT; have HO1 : Hid (r.Ok 0 w1) := ⟨HO.out.1.below hb, HO.out.2.below hb⟩; have HM1 : Hid (Mem w1 b L) := HM.out.below hb; replace k0 := (hb.block _ (Pl.blk_lt k0)).trans k0; replace B := Rw.next B hb; clear r0 r1 r2 r3; obtain ⟨r0, r1, r2, r3⟩ := four k0; clear hb hT hAt; have t1 : True := trivial)
      | (go_at_call 51; clear t1; refine (h3 s _ hs HM1.out HT.out).mono ?_; rintro e w2 ⟨rfl, hb⟩; have HO2 : Hid (r.Ok 0 w2) := ⟨HO1.out.1.below hb, HO1.out.2.below hb⟩; have HM2 : Hid (Mem w2 b L) := HM1.out.below hb; replace hs := hs.below hb; replace k0 := (hb.block _ (Pl.blk_lt k0)).trans k0; replace B := Rw.next B hb; clear r0 r1 r2 r3; obtain ⟨r0, r1, r2, r3⟩ := four k0; clear hb h3; have t2 : True := trivial))
    go_ret
    exact ⟨by rw [HA.out]; rfl, B⟩
  | false =>
    cases R4 with
    | true =>
      have HA : Hid (A = 4) := HC.out
      clear HC
      go_enter Tryz.func25, Tryz.ntmps25
      go_wp2_with (first
        | (go_at_call 50; rw [← hW1]; clear hW1; refine hAt.mono ?_; rintro e w1 ⟨hb, s, rfl, hs, hT, hn⟩; have HT : Hid (told kdHa s.Q = atoms r.l) := hT; have HO1 : Hid (r.Ok 0 w1) := ⟨HO.out.1.below hb, HO.out.2.below hb⟩; have HM1 : Hid (Mem w1 b L) := HM.out.below hb; replace k0 := (hb.block _ (Pl.blk_lt k0)).trans k0; replace B := Rw.next B hb; clear r0 r1 r2 r3; obtain ⟨r0, r1, r2, r3⟩ := four k0; clear hb hT hAt; have t1 : True := trivial)
        | (go_at_call 51; clear t1; refine (h3 s _ hs HM1.out HT.out).mono ?_; rintro e w2 ⟨rfl, hb⟩; have HO2 : Hid (r.Ok 0 w2) := ⟨HO1.out.1.below hb, HO1.out.2.below hb⟩; have HM2 : Hid (Mem w2 b L) := HM1.out.below hb; replace hs := hs.below hb; replace k0 := (hb.block _ (Pl.blk_lt k0)).trans k0; replace B := Rw.next B hb; clear r0 r1 r2 r3; obtain ⟨r0, r1, r2, r3⟩ := four k0; clear hb h3; have t2 : True := trivial)
        | (go_at_call 51; clear t2; refine (h4 s _ hs HM2.out HT.out).mono ?_; rintro e w3 ⟨rfl, hb⟩; have HO3 : Hid (r.Ok 0 w3) := ⟨HO2.out.1.below hb, HO2.out.2.below hb⟩; have HM3 : Hid (Mem w3 b L) := HM2.out.below hb; clear hs; replace k0 := (hb.block _ (Pl.blk_lt k0)).trans k0; replace B := Rw.next B hb; clear r0 r1 r2 r3; obtain ⟨r0, r1, r2, r3⟩ := four k0; clear hb h4))
      go_ret
      exact ⟨by rw [HA.out]; rfl, B⟩
    | false =>
      cases R5 with
      | false =>
        have HA : Hid (A = 5) := HC.out
        clear HC
        go_enter Tryz.func25, Tryz.ntmps25
        go_wp2_with (first
          | (go_at_call 50; rw [← hW1]; clear hW1; refine hAt.mono ?_; rintro e w1 ⟨hb, s, rfl, hs, hT, hn⟩; have HT : Hid (told kdHa s.Q = atoms r.l) := hT; have HO1 : Hid (r.Ok 0 w1) := ⟨HO.out.1.below hb, HO.out.2.below hb⟩; have HM1 : Hid (Mem w1 b L) := HM.out.below hb; replace k0 := (hb.block _ (Pl.blk_lt k0)).trans k0; replace B := Rw.next B hb; clear r0 r1 r2 r3; obtain ⟨r0, r1, r2, r3⟩ := four k0; clear hb hT hAt; have t1 : True := trivial)
          | (go_at_call 51; clear t1; refine (h3 s _ hs HM1.out HT.out).mono ?_; rintro e w2 ⟨rfl, hb⟩; have HO2 : Hid (r.Ok 0 w2) := ⟨HO1.out.1.below hb, HO1.out.2.below hb⟩; have HM2 : Hid (Mem w2 b L) := HM1.out.below hb; replace hs := hs.below hb; replace k0 := (hb.block _ (Pl.blk_lt k0)).trans k0; replace B := Rw.next B hb; clear r0 r1 r2 r3; obtain ⟨r0, r1, r2, r3⟩ := four k0; clear hb h3; have t2 : True := trivial)
          | (go_at_call 51; clear t2; refine (h4 s _ hs HM2.out HT.out).mono ?_; rintro e w3 ⟨rfl, hb⟩; have HO3 : Hid (r.Ok 0 w3) := ⟨HO2.out.1.below hb, HO2.out.2.below hb⟩; have HM3 : Hid (Mem w3 b L) := HM2.out.below hb; clear hs; replace k0 := (hb.block _ (Pl.blk_lt k0)).trans k0; replace B := Rw.next B hb; clear r0 r1 r2 r3; obtain ⟨r0, r1, r2, r3⟩ := four k0; clear hb h4)
          | (go_at_call 54; refine (h5 _ HO3.out HM3.out).mono ?_; rintro e w4 ⟨rfl, hb⟩; have HO4 : Hid (r.Ok 0 w4) := ⟨HO3.out.1.below hb, HO3.out.2.below hb⟩; have HM4 : Hid (Mem w4 b L) := HM3.out.below hb; replace k0 := (hb.block _ (Pl.blk_lt k0)).trans k0; replace B := Rw.next B hb; clear r0 r1 r2 r3; obtain ⟨r0, r1, r2, r3⟩ := four k0; clear hb h5))
        go_ret
        exact ⟨by rw [HA.out]; rfl, B⟩
      | true =>
        cases R6 with
        | true =>
          have HA : Hid (A = 6) := HC.out
          clear HC
          go_enter Tryz.func25, Tryz.ntmps25
          go_wp2_with (first
            | (go_at_call 50; rw [← hW1]; clear hW1; refine hAt.mono ?_; rintro e w1 ⟨hb, s, rfl, hs, hT, hn⟩; have HT : Hid (told kdHa s.Q = atoms r.l) := hT; have HO1 : Hid (r.Ok 0 w1) := ⟨HO.out.1.below hb, HO.out.2.below hb⟩; have HM1 : Hid (Mem w1 b L) := HM.out.below hb; replace k0 := (hb.block _ (Pl.blk_lt k0)).trans k0; replace B := Rw.next B hb; clear r0 r1 r2 r3; obtain ⟨r0, r1, r2, r3⟩ := four k0; clear hb hT hAt; have t1 : True := trivial)
            | (go_at_call 51; clear t1; refine (h3 s _ hs HM1.out HT.out).mono ?_; rintro e w2 ⟨rfl, hb⟩; have HO2 : Hid (r.Ok 0 w2) := ⟨HO1.out.1.below hb, HO1.out.2.below hb⟩; have HM2 : Hid (Mem w2 b L) := HM1.out.below hb; replace hs := hs.below hb; replace k0 := (hb.block _ (Pl.blk_lt k0)).trans k0; replace B := Rw.next B hb; clear r0 r1 r2 r3; obtain ⟨r0, r1, r2, r3⟩ := four k0; clear hb h3; have t2 : True := trivial)
            | (go_at_call 51; clear t2; refine (h4 s _ hs HM2.out HT.out).mono ?_; rintro e w3 ⟨rfl, hb⟩; have HO3 : Hid (r.Ok 0 w3) := ⟨HO2.out.1.below hb, HO2.out.2.below hb⟩; have HM3 : Hid (Mem w3 b L) := HM2.out.below hb; clear hs; replace k0 := (hb.block _ (Pl.blk_lt k0)).trans k0; replace B := Rw.next B hb; clear r0 r1 r2 r3; obtain ⟨r0, r1, r2, r3⟩ := four k0; clear hb h4)
            | (go_at_call 54; refine (h5 _ HO3.out HM3.out).mono ?_; rintro e w4 ⟨rfl, hb⟩; have HO4 : Hid (r.Ok 0 w4) := ⟨HO3.out.1.below hb, HO3.out.2.below hb⟩; have HM4 : Hid (Mem w4 b L) := HM3.out.below hb; replace k0 := (hb.block _ (Pl.blk_lt k0)).trans k0; replace B := Rw.next B hb; clear r0 r1 r2 r3; obtain ⟨r0, r1, r2, r3⟩ := four k0; clear hb h5)
            | (go_at_call 55; refine (h6 _ HO4.out HM4.out).mono ?_; rintro e w5 ⟨rfl, hb⟩; have HO5 : Hid (r.Ok 0 w5) := ⟨HO4.out.1.below hb, HO4.out.2.below hb⟩; have HM5 : Hid (Mem w5 b L) := HM4.out.below hb; replace k0 := (hb.block _ (Pl.blk_lt k0)).trans k0; replace B := Rw.next B hb; clear r0 r1 r2 r3; obtain ⟨r0, r1, r2, r3⟩ := four k0; clear hb h6))
          go_ret
          exact ⟨by rw [HA.out]; rfl, B⟩
        | false =>
          cases R7 with
          | false =>
            have HA : Hid (A = 7) := HC.out
            clear HC
            go_enter Tryz.func25, Tryz.ntmps25
            go_wp2_with (first
              | (go_at_call 50; rw [← hW1]; clear hW1; refine hAt.mono ?_; rintro e w1 ⟨hb, s, rfl, hs, hT, hn⟩; have HT : Hid (told kdHa s.Q = atoms r.l) := hT; have HO1 : Hid (r.Ok 0 w1) := ⟨HO.out.1.below hb, HO.out.2.below hb⟩; have HM1 : Hid (Mem w1 b L) := HM.out.below hb; replace k0 := (hb.block _ (Pl.blk_lt k0)).trans k0; replace B := Rw.next B hb; clear r0 r1 r2 r3; obtain ⟨r0, r1, r2, r3⟩ := four k0; clear hb hT hAt; have t1 : True := trivial)
              | (go_at_call 51; clear t1; refine (h3 s _ hs HM1.out HT.out).mono ?_; rintro e w2 ⟨rfl, hb⟩; have HO2 : Hid (r.Ok 0 w2) := ⟨HO1.out.1.below hb, HO1.out.2.below hb⟩; have HM2 : Hid (Mem w2 b L) := HM1.out.below hb; replace hs := hs.below hb; replace k0 := (hb.block _ (Pl.blk_lt k0)).trans k0; replace B := Rw.next B hb; clear r0 r1 r2 r3; obtain ⟨r0, r1, r2, r3⟩ := four k0; clear hb h3; have t2 : True := trivial)
              | (go_at_call 51; clear t2; refine (h4 s _ hs HM2.out HT.out).mono ?_; rintro e w3 ⟨rfl, hb⟩; have HO3 : Hid (r.Ok 0 w3) := ⟨HO2.out.1.below hb, HO2.out.2.below hb⟩; have HM3 : Hid (Mem w3 b L) := HM2.out.below hb; clear hs; replace k0 := (hb.block _ (Pl.blk_lt k0)).trans k0; replace B := Rw.next B hb; clear r0 r1 r2 r3; obtain ⟨r0, r1, r2, r3⟩ := four k0; clear hb h4)
              | (go_at_call 54; refine (h5 _ HO3.out HM3.out).mono ?_; rintro e w4 ⟨rfl, hb⟩; have HO4 : Hid (r.Ok 0 w4) := ⟨HO3.out.1.below hb, HO3.out.2.below hb⟩; have HM4 : Hid (Mem w4 b L) := HM3.out.below hb; replace k0 := (hb.block _ (Pl.blk_lt k0)).trans k0; replace B := Rw.next B hb; clear r0 r1 r2 r3; obtain ⟨r0, r1, r2, r3⟩ := four k0; clear hb h5)
              | (go_at_call 55; refine (h6 _ HO4.out HM4.out).mono ?_; rintro e w5 ⟨rfl, hb⟩; have HO5 : Hid (r.Ok 0 w5) := ⟨HO4.out.1.below hb, HO4.out.2.below hb⟩; have HM5 : Hid (Mem w5 b L) := HM4.out.below hb; replace k0 := (hb.block _ (Pl.blk_lt k0)).trans k0; replace B := Rw.next B hb; clear r0 r1 r2 r3; obtain ⟨r0, r1, r2, r3⟩ := four k0; clear hb h6)
              | (go_at_call 57; refine (h7 _ HO5.out HM5.out).mono ?_; rintro e w6 ⟨rfl, hb⟩; replace B := Rw.next B hb))
            go_ret
            exact ⟨by rw [HA.out]; rfl, B⟩
          | true =>
            have HA : Hid (A = 0) := HC.out
            clear HC
            go_enter Tryz.func25, Tryz.ntmps25
            go_wp2_with (first
              | (go_at_call 50; rw [← hW1]; clear hW1; refine hAt.mono ?_; rintro e w1 ⟨hb, s, rfl, hs, hT, hn⟩; have HT : Hid (told kdHa s.Q = atoms r.l) := hT; have HO1 : Hid (r.Ok 0 w1) := ⟨HO.out.1.below hb, HO.out.2.below hb⟩; have HM1 : Hid (Mem w1 b L) := HM.out.below hb; replace k0 := (hb.block _ (Pl.blk_lt k0)).trans k0; replace B := Rw.next B hb; clear r0 r1 r2 r3; obtain ⟨r0, r1, r2, r3⟩ := four k0; clear hb hT hAt; have t1 : True := trivial)
              | (go_at_call 51; clear t1; refine (h3 s _ hs HM1.out HT.out).mono ?_; rintro e w2 ⟨rfl, hb⟩; have HO2 : Hid (r.Ok 0 w2) := ⟨HO1.out.1.below hb, HO1.out.2.below hb⟩; have HM2 : Hid (Mem w2 b L) := HM1.out.below hb; replace hs := hs.below hb; replace k0 := (hb.block _ (Pl.blk_lt k0)).trans k0; replace B := Rw.next B hb; clear r0 r1 r2 r3; obtain ⟨r0, r1, r2, r3⟩ := four k0; clear hb h3; have t2 : True := trivial)
              | (go_at_call 51; clear t2; refine (h4 s _ hs HM2.out HT.out).mono ?_; rintro e w3 ⟨rfl, hb⟩; have HO3 : Hid (r.Ok 0 w3) := ⟨HO2.out.1.below hb, HO2.out.2.below hb⟩; have HM3 : Hid (Mem w3 b L) := HM2.out.below hb; clear hs; replace k0 := (hb.block _ (Pl.blk_lt k0)).trans k0; replace B := Rw.next B hb; clear r0 r1 r2 r3; obtain ⟨r0, r1, r2, r3⟩ := four k0; clear hb h4)
              | (go_at_call 54; refine (h5 _ HO3.out HM3.out).mono ?_; rintro e w4 ⟨rfl, hb⟩; have HO4 : Hid (r.Ok 0 w4) := ⟨HO3.out.1.below hb, HO3.out.2.below hb⟩; have HM4 : Hid (Mem w4 b L) := HM3.out.below hb; replace k0 := (hb.block _ (Pl.blk_lt k0)).trans k0; replace B := Rw.next B hb; clear r0 r1 r2 r3; obtain ⟨r0, r1, r2, r3⟩ := four k0; clear hb h5)
              | (go_at_call 55; refine (h6 _ HO4.out HM4.out).mono ?_; rintro e w5 ⟨rfl, hb⟩; have HO5 : Hid (r.Ok 0 w5) := ⟨HO4.out.1.below hb, HO4.out.2.below hb⟩; have HM5 : Hid (Mem w5 b L) := HM4.out.below hb; replace k0 := (hb.block _ (Pl.blk_lt k0)).trans k0; replace B := Rw.next B hb; clear r0 r1 r2 r3; obtain ⟨r0, r1, r2, r3⟩ := four k0; clear hb h6)
              | (go_at_call 57; refine (h7 _ HO5.out HM5.out).mono ?_; rintro e w6 ⟨rfl, hb⟩; replace B := Rw.next B hb))
            go_ret
            exact ⟨by rw [HA.out]; rfl, B⟩

end Go.Proofs.YtljlgjgfmgilaaaGreat.Nq

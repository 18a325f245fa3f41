/-
  Contracts of the specification's MatchBits.
-/
import Derived.Test.YtbplpfcplpoeiaaBx
import Derived.Test.YtbplpfcplpoeiaaMm
import Derived.Test.YtbplpfcplpoeiaaMu
namespace Go.Proofs.Ytbplpfcplpoeiaa.Mw
open Go Go.RowKit
open Num Pl Hr Hh Hf Hg Pa Pm Po Pq Mi Bw Mo Mp Mj Mm Mv Bx
set_option linter.unusedSimpArgs false
set_option linter.unusedVariables false

set_option maxHeartbeats 1000000 in
theorem bitsS_no (f v n : Int) (w : World) (h : bitsB f v n = false) : Calls Try.prog 24 #[.int .i64 f, .int .i64 v, .int .i64 n] w (ResMB w false [] []) := by
  obtain ⟨W0, hW0⟩ : ∃ W0, W0 = w.alloc (.cells #[.slice none 0 0, .slice none 0 0] 25) := ⟨_, rfl⟩
  have B : Below w.heap.size w W0 := by subst hW0; exact below_alloc1 _ _
  have k0 : W0.heap[w.heap.size]? = some (.cells #[.slice none 0 0, .slice none 0 0] 25 (0, 0)) := by subst hW0; exact at_new rfl
  have hf := specFits_any f v W0
  have hb := fun w => specBits_any f w
  cases hx : fits f v with
  | false =>
    rw [hx] at hf
    have HF : Hid (Calls Try.prog 64 #[.int .i64 f, .int .i64 v] W0 fun e w' => e = .returned (.bool false) ∧ Below W0.heap.size W0 w') := hf
    clear h hb hf
    go_enter Try.func24, Try.ntmps24
    go_wp2_with (go_at_call 64; rw [← hW0]; clear hW0; refine HF.out.mono ?_; rintro e wa ⟨rfl, hb⟩; replace k0 := (hb.block _ (Array.getElem?_eq_some_iff.1 k0).1).trans k0; obtain ⟨r0, r1⟩ := two k0; have fr := Bl.free k0; replace B := Rw.next B hb; clear hb)
    refine bodyPost_ret (v := .tuple #[.agg #[.slice none 0 0, .slice none 0 0], .bool false]) (by simp [results, Try.results24, go_sem, r0, r1]) rfl (resMB_none ?_)
    exact bset (bset B (by omega)) (by omega)
  | true =>
    rw [hx] at hf
    have HF : Hid (Calls Try.prog 64 #[.int .i64 f, .int .i64 v] W0 fun e w' => e = .returned (.bool true) ∧ Below W0.heap.size W0 w') := hf
    unfold bitsB at h
    rw [hx] at h
    by_cases hn : n < 0
    · clear h hb hf
      go_enter Try.func24, Try.ntmps24
      go_wp2_with (go_at_call 64; rw [← hW0]; clear hW0; refine HF.out.mono ?_; rintro e wa ⟨rfl, hb⟩; replace k0 := (hb.block _ (Array.getElem?_eq_some_iff.1 k0).1).trans k0; obtain ⟨r0, r1⟩ := two k0; have fr := Bl.free k0; replace B := Rw.next B hb; clear hb)
      refine bodyPost_ret (v := .tuple #[.agg #[.slice none 0 0, .slice none 0 0], .bool false]) (by simp [results, Try.results24, go_sem, r0, r1]) rfl (resMB_none ?_)
      exact bset (bset B (by omega)) (by omega)
    · have hg : fb f < n := by simp at h; omega
      generalize fb f = q at *
      have HB : Hid (∀ w, Calls Try.prog 52 #[.int .i64 f] w fun e w' => e = .returned (.int .i64 q) ∧ Below w.heap.size w w') := hb
      clear h hb hf
      go_enter Try.func24, Try.ntmps24
      go_wp2_with (first
        | (go_at_call 64; rw [← hW0]; clear hW0; refine HF.out.mono ?_; rintro e wa ⟨rfl, hb⟩; replace k0 := (hb.block _ (Array.getElem?_eq_some_iff.1 k0).1).trans k0; replace B := Rw.next B hb; clear hb)
        | (go_at_call 52; refine (HB.out _).mono ?_; rintro e wb ⟨rfl, hb⟩; replace k0 := (hb.block _ (Array.getElem?_eq_some_iff.1 k0).1).trans k0; obtain ⟨r0, r1⟩ := two k0; have fr := Bl.free k0; replace B := Rw.next B hb; clear hb))
      refine bodyPost_ret (v := .tuple #[.agg #[.slice none 0 0, .slice none 0 0], .bool false]) (by simp [results, Try.results24, go_sem, r0, r1]) rfl (resMB_none ?_)
      exact bset (bset B (by omega)) (by omega)

theorem upd_nul (f : Nat) : upd nul f 0 = nul := by funext i; simp [upd, nul]
theorem wt_upd {w : World} {a : Option Addr} {g k : Nat} {x y : Int} (h : Wt w a g (lst (upd nul k x))) (hk : k < 8) : Wt (w.setCell ⟨g, k, none⟩ (.int .i64 y)) a g (lst (upd nul k y)) := by
  have hl : (lst (upd nul k y)).length = (lst (upd nul k x)).length := by rw [lst_len, lst_len]
  refine ⟨fun hp => h.head (by omega), fun i hi => ?_, fun i hi => ?_, by rw [lst_len]; omega⟩
  · rw [lst_len] at hi
    rw [lst_at _ hi]
    have hc := h.cell i (by rw [lst_len]; exact hi)
    rw [lst_at _ hi] at hc
    by_cases e : i = k
    · subst e
      rw [World.cell?_setCell_same _ _ _ hc]
      simp [upd]
    · rw [World.cell?_setCell_other _ _ _ _ (by intro q; injection q with q1 q2; exact e q2.symm), hc]
      simp [upd, e]
  · rw [lst_len] at hi
    have := h.free i (by rw [lst_len]; exact hi)
    simpa using this

set_option maxRecDepth 8000 in
set_option maxHeartbeats 4000000 in
theorem bitsS_yes (f n : Nat) (v : Int) (w : World) (hf8 : f < 8) (hx : fits f v = true) (hn : n ≤ fbN f) :
    Calls Try.prog 24 #[.int .i64 f, .int .i64 v, .int .i64 n] w (ResMB w true (lst (upd nul f ((hi v.toNat (fbN f) n : Nat) : Int))) (lst (upd nul f (topI f n)))) := by
  obtain ⟨W0, hW0⟩ : ∃ W0, W0 = w.alloc (.cells #[.slice none 0 0, .slice none 0 0] 25) := ⟨_, rfl⟩
  have B : Below w.heap.size w W0 := by subst hW0; exact below_alloc1 _ _
  have kR : W0.heap[w.heap.size]? = some (.cells #[.slice none 0 0, .slice none 0 0] 25 (0, 0)) := by subst hW0; exact at_new rfl
  have hf := specFits_any f v W0
  rw [hx] at hf
  have HF : Hid (Calls Try.prog 64 #[.int .i64 f, .int .i64 v] W0 fun e w' => e = .returned (.bool true) ∧ Below W0.heap.size W0 w') := hf
  have HB : Hid (∀ w, Calls Try.prog 52 #[.int .i64 f] w fun e w' => e = .returned (.int .i64 (fbN f : Int)) ∧ Below w.heap.size w w') := (fun w => by have := specBits_any f w; rw [fbN_eq] at this; exact this : ∀ w, Calls Try.prog 52 #[.int .i64 f] w fun e w' => e = .returned (.int .i64 (fbN f : Int)) ∧ Below w.heap.size w w')
  have hpos : 0 < fbN f := by rcases Hs.k8 hf8 with rfl | rfl | rfl | rfl | rfl | rfl | rfl | rfl <;> decide
  have h48 := fbN_le f
  have hlt := fits_pow hx
  have hv0 := fits_lt hx
  obtain ⟨u, rfl⟩ : ∃ u : Nat, v = u := ⟨v.toNat, by omega⟩
  rw [Int.toNat_natCast] at hlt ⊢
  unfold topI
  have hnz : ¬ ((fbN f : Int) < (n : Int)) := by omega
  have hfz : (f : Int) < 8 := by omega
  have HLT : Hid (u < 2 ^ fbN f) := hlt
  clear hf hx hlt
  generalize fbN f = b at *
  go_enter Try.func24, Try.ntmps24
  have tok1 : True := trivial
  go_wp2_with (first
    | (go_at_call 64; rw [← hW0]; clear hW0; refine HF.out.mono ?_; rintro e wa ⟨rfl, hb⟩; replace kR := (hb.block _ (Array.getElem?_eq_some_iff.1 kR).1).trans kR; replace B := Rw.next B hb; clear hb)
    | (go_at_call 52; clear tok1; refine (HB.out _).mono ?_; rintro e wb ⟨rfl, hb⟩; replace kR := (hb.block _ (Array.getElem?_eq_some_iff.1 kR).1).trans kR; replace B := Rw.next B hb; clear hb)
    | (go_at_call 32; refine (Mr.allS_any _).mono ?_; rintro e wc ⟨aV, gV, cV, aM, gM, cM, rfl, hV, hM, l1, l2, l3, hb⟩; have sb := hb.size; have zr3 := (Array.getElem?_eq_some_iff.1 kR).1; replace kR := (hb.block _ zr3).trans kR; replace B := Rw.next B hb; clear hb))
  clear HF
  obtain rfl := hV.head (by rw [lst_len]; omega)
  obtain rfl := hM.head (by rw [lst_len]; omega)
  rw [lst_len]
  have zR := (Array.getElem?_eq_some_iff.1 kR).1
  have yV : gV < wc.heap.size := by have := Hr.wt_lt hV; rw [lst_len] at this; omega
  have yM : gM < wc.heap.size := by have := Hr.wt_lt hM; rw [lst_len] at this; omega
  have kX : (wc.alloc (.cells #[.slice (some ⟨gV, 0, none⟩) 8 cV, .slice (some ⟨gM, 0, none⟩) 8 cM] 25)).heap[wc.heap.size]? = some (.cells #[.slice (some ⟨gV, 0, none⟩) 8 cV, .slice (some ⟨gM, 0, none⟩) 8 cM] 25 (0, 0)) := at_new rfl
  have BX : Below wc.heap.size wc (wc.alloc (.cells #[.slice (some ⟨gV, 0, none⟩) 8 cV, .slice (some ⟨gM, 0, none⟩) 8 cM] 25)) := below_alloc1 _ _
  replace kR := (BX.block _ zR).trans kR
  replace hV := hV.below BX
  replace hM := hM.below BX
  replace B := Rw.next B BX
  obtain ⟨X, hX⟩ : ∃ X, X = wc.heap.size := ⟨_, rfl⟩
  rw [← hX] at kX ⊢
  obtain ⟨wd, hwd⟩ : ∃ wd, wd = wc.alloc (.cells #[.slice (some ⟨gV, 0, none⟩) 8 cV, .slice (some ⟨gM, 0, none⟩) 8 cM] 25) := ⟨_, rfl⟩
  rw [← hwd] at kR kX hV hM B ⊢
  have o1V : w.heap.size < gV := by omega
  have o1M : w.heap.size < gM := by omega
  have oXV : gV < X := by omega
  have oXM : gM < X := by omega
  have hV0 : Wt wd (some ⟨gV, 0, none⟩) gV (lst (upd nul f ((hi u b 0 : Nat) : Int))) := by rw [hi_zero HLT.out]; show Wt wd _ gV (lst (upd nul f 0)); rw [upd_nul]; exact hV
  have hM0 : Wt wd (some ⟨gM, 0, none⟩) gM (lst (upd nul f ((Bt.top b 0 : Nat) : Int))) := by rw [top_zero]; show Wt wd _ gM (lst (upd nul f 0)); rw [upd_nul]; exact hM
  clear hX hwd zR yV yM sb zr3 l1 l2 hV hM BX
  go_loopw [9, 10] (fun q i wr => ∃ k : Nat, 1 ≤ k ∧ k ≤ b ∧ i = .int .i64 k ∧ q = .int .i64 ((2 ^ (k - 1) : Nat) : Int) ∧ Below w.heap.size w wr ∧ wr.heap[w.heap.size]? = some (.cells #[.slice none 0 0, .slice none 0 0] 25 (0, 0)) ∧ wr.heap[X]? = some (.cells #[.slice (some ⟨gV, 0, none⟩) 8 cV, .slice (some ⟨gM, 0, none⟩) 8 cM] 25 (0, 0)) ∧ Wt wr (some ⟨gV, 0, none⟩) gV (lst (upd nul f ((hi u b 0 : Nat) : Int))) ∧ Wt wr (some ⟨gM, 0, none⟩) gM (lst (upd nul f ((Bt.top b 0 : Nat) : Int)))) (fun _ i _ => b - (intOf i).toNat)
  case atStart => exact ⟨1, by omega, hpos, rfl, rfl, B, kR, kX, hV0, hM0⟩
  case round =>
    obtain ⟨k, hk1, hk, rfl, rfl, hbel, qR, qX, hv, hm⟩ := hrel
    clear B kR kX hV0 hM0
    have zR := (Array.getElem?_eq_some_iff.1 qR).1
    have zX := (Array.getElem?_eq_some_iff.1 qX).1
    by_cases hlt : k < b
    · have hkz : (k : Int) < b := by omega
      have e2 : 2 ^ (k - 1) * 2 = 2 ^ (k + 1 - 1) := by rw [← Nat.pow_succ]; congr 1; omega
      have e3 : 2 ^ (k - 1) < 2 ^ 48 := Nat.pow_lt_pow_right (by decide) (by omega)
      generalize 2 ^ (k - 1) = p at *
      have E2 : Hid (p * 2 = 2 ^ (k + 1 - 1)) := e2
      have e4 : (p : Int) < 281474976710656 := by omega
      have GV : Hid (Wt wr (some ⟨gV, 0, none⟩) gV (lst (upd nul f ((hi u b 0 : Nat) : Int)))) := hv
      have GM : Hid (Wt wr (some ⟨gM, 0, none⟩) gM (lst (upd nul f ((Bt.top b 0 : Nat) : Int)))) := hm
      have QR : Hid (wr.heap[w.heap.size]? = some (.cells #[.slice none 0 0, .slice none 0 0] 25 (0, 0))) := qR
      have QX : Hid (wr.heap[X]? = some (.cells #[.slice (some ⟨gV, 0, none⟩) 8 cV, .slice (some ⟨gM, 0, none⟩) 8 cM] 25 (0, 0))) := qX
      clear hv hm qR qX e2 e3
      go_wp2_with (go_at_call 52; refine (HB.out _).mono ?_; rintro e wz ⟨rfl, hb⟩)
      go_roundw
      case rel =>
        refine ⟨k + 1, by omega, by omega, by go_num, ?_, Rw.next hbel hb, (hb.block _ zR).trans QR.out, (hb.block _ zX).trans QX.out, GV.out.below hb, GM.out.below hb⟩
        rw [← E2.out]
        go_num
      case measure => simp [intOf]; omega
    · have he : k = b := by omega
      have hkz : ¬ ((k : Int) < (b : Int)) := by omega
      have e5 : 2 ^ (k - 1) = bitN b 0 := by
        rw [bitN_lt hpos, he]
      rw [e5]
      have GV : Hid (Wt wr (some ⟨gV, 0, none⟩) gV (lst (upd nul f ((hi u b 0 : Nat) : Int)))) := hv
      have GM : Hid (Wt wr (some ⟨gM, 0, none⟩) gM (lst (upd nul f ((Bt.top b 0 : Nat) : Int)))) := hm
      have QR : Hid (wr.heap[w.heap.size]? = some (.cells #[.slice none 0 0, .slice none 0 0] 25 (0, 0))) := qR
      have QX : Hid (wr.heap[X]? = some (.cells #[.slice (some ⟨gV, 0, none⟩) 8 cV, .slice (some ⟨gM, 0, none⟩) 8 cM] 25 (0, 0))) := qX
      clear hv hm qR qX e5 hk hk1 hlt
      go_wp2_with (go_at_call 52; refine (HB.out _).mono ?_; rintro e wz ⟨rfl, hb⟩; clear HB)
      go_loopw [9, 11] (fun q i wr => ∃ k : Nat, k ≤ n ∧ i = .int .i64 k ∧ q = .int .i64 ((bitN b k : Nat) : Int) ∧ Below w.heap.size w wr ∧ wr.heap[w.heap.size]? = some (.cells #[.slice none 0 0, .slice none 0 0] 25 (0, 0)) ∧ wr.heap[X]? = some (.cells #[.slice (some ⟨gV, 0, none⟩) 8 cV, .slice (some ⟨gM, 0, none⟩) 8 cM] 25 (0, 0)) ∧ Wt wr (some ⟨gV, 0, none⟩) gV (lst (upd nul f ((hi u b k : Nat) : Int))) ∧ Wt wr (some ⟨gM, 0, none⟩) gM (lst (upd nul f ((Bt.top b k : Nat) : Int)))) (fun _ i _ => n - (intOf i).toNat)
      case atStart => exact ⟨0, by omega, rfl, rfl, Rw.next hbel hb, (hb.block _ zR).trans QR.out, (hb.block _ zX).trans QX.out, GV.out.below hb, GM.out.below hb⟩
      case round =>
        clear zR zX GV GM QR QX hb hbel hkz he
        obtain ⟨j, hj, rfl, rfl, hbel, qR, qX, hv, hm⟩ := hrel
        have zR := (Array.getElem?_eq_some_iff.1 qR).1
        have zX := (Array.getElem?_eq_some_iff.1 qX).1
        obtain ⟨x0, x1⟩ := two qX
        have nX : X ≠ w.heap.size := by omega
        have d1 : gV ≠ w.heap.size := by omega
        have d3 : gM ≠ w.heap.size := by omega
        have d5 : gV ≠ X := by omega
        have d6 : gM ≠ X := by omega
        by_cases hlt : j < n
        · have hjb : j < b := by omega
          have hjz : (j : Int) < n := by omega
          have cV1 := hv.cell f (by rw [lst_len]; exact hf8)
          have cM1 := hm.cell f (by rw [lst_len]; exact hf8)
          have fV := hv.free f (by rw [lst_len]; exact hf8)
          have fM := hm.free f (by rw [lst_len]; exact hf8)
          rw [lst_at _ hf8] at cV1 cM1
          have ef : ∀ x : Int, upd nul f x f = x := fun x => by simp [upd]
          rw [ef] at cV1 cM1
          clear ef
          have GV : Hid (Wt wr (some ⟨gV, 0, none⟩) gV (lst (upd nul f ((hi u b j : Nat) : Int)))) := hv
          have GM : Hid (Wt wr (some ⟨gM, 0, none⟩) gM (lst (upd nul f ((Bt.top b j : Nat) : Int)))) := hm
          have QR : Hid (wr.heap[w.heap.size]? = some (.cells #[.slice none 0 0, .slice none 0 0] 25 (0, 0))) := qR
          have QX : Hid (wr.heap[X]? = some (.cells #[.slice (some ⟨gV, 0, none⟩) 8 cV, .slice (some ⟨gM, 0, none⟩) 8 cM] 25 (0, 0))) := qX
          have et := Bt.top_succ hjb
          have eh := hi_succ (v := u) hjb
          rw [← bitN_lt hjb] at et eh
          have eb := bitN_half hjb
          have l48 : 2 ^ b ≤ 2 ^ 48 := Nat.pow_le_pow_right (by decide) h48
          have lt := Nat.lt_of_lt_of_le (Bt.top_lt b (j + 1) (by omega)) l48
          have lh := hi_le u b (j + 1)
          have lu := HLT.out
          have bp : 0 < bitN b j := by rw [bitN_lt hjb]; exact Nat.pos_of_ne_zero (by simp)
          clear hv hm qR qX
          generalize et2 : Bt.top b (j + 1) = t2 at *
          generalize et1 : Bt.top b j = t1 at *
          generalize eh2 : hi u b (j + 1) = h2 at *
          generalize eh1 : hi u b j = h1 at *
          generalize eb2 : bitN b (j + 1) = p2 at *
          generalize eb1 : bitN b j = p at *
          have hp : (0 : Int) < p := by omega
          have ew : IntKind.i64.wrap ((t1 : Int) + (p : Int)) = (t2 : Int) := by
            have e : (t1 : Int) + (p : Int) = t2 := by omega
            rw [e]
            exact Get.wraps_i64 _ (by omega) (by omega)
          have EB : Hid (p / 2 = bitN b (j + 1)) := eb.trans eb2.symm
          have ET2 : Hid (Bt.top b (j + 1) = t2) := et2
          have EH2 : Hid (hi u b (j + 1) = h2) := eh2
          have hp48 : (p : Int) < 281474976710656 := by omega
          have hquo : (u : Int) / (p : Int) = ((u / p : Nat) : Int) := by omega
          have hqle : u / p ≤ u := Nat.div_le_self _ _
          have hqz : ((u / p : Nat) : Int) < 281474976710656 := by omega
          generalize u / p = c at *
          have HX : Hid (X ≠ gM ∧ X ≠ gV) := ⟨by omega, by omega⟩
          clear et2 et1 eh2 eh1 eb2 eb1 et eb lt
          go_wp2
          go_region
          obtain ⟨wy, hwy⟩ : ∃ wy, wy = (wr.setCell ⟨gM, f, none⟩ (.int .i64 t2)).drew := ⟨_, rfl⟩
          rw [← hwy]
          replace x0 : wy.cell? ⟨X, 0, none⟩ = some (.slice (some ⟨gV, 0, none⟩) 8 cV) := by subst hwy; rw [World.cell?_drew]; exact Mu.cell_set0 x0 (by simp; omega)
          replace cV1 : wy.cell? ⟨gV, f, none⟩ = some (.int .i64 h1) := by subst hwy; rw [World.cell?_drew]; exact Mu.cell_set0 cV1 (by simp; omega)
          replace fV : wy.frozen? ⟨gV, f, none⟩ = false := by subst hwy; simpa using fV
          replace hbel : Below w.heap.size w wy := by subst hwy; exact (bset hbel (by omega)).drew
          replace QR : Hid (wy.heap[w.heap.size]? = some (.cells #[.slice none 0 0, .slice none 0 0] 25 (0, 0))) := (by subst hwy; exact blk_set QR.out (Ne.symm d3) : wy.heap[w.heap.size]? = some (.cells #[.slice none 0 0, .slice none 0 0] 25 (0, 0)))
          replace QX : Hid (wy.heap[X]? = some (.cells #[.slice (some ⟨gV, 0, none⟩) 8 cV, .slice (some ⟨gM, 0, none⟩) 8 cM] 25 (0, 0))) := (by subst hwy; exact blk_set QX.out (Ne.symm d6) : wy.heap[X]? = some (.cells #[.slice (some ⟨gV, 0, none⟩) 8 cV, .slice (some ⟨gM, 0, none⟩) 8 cM] 25 (0, 0)))
          replace GV : Hid (Wt wy (some ⟨gV, 0, none⟩) gV (lst (upd nul f ((h1 : Nat) : Int)))) := (by subst hwy; exact wt_drew (wt_set2 GV.out (Ne.symm l3)) : Wt wy (some ⟨gV, 0, none⟩) gV (lst (upd nul f ((h1 : Nat) : Int))))
          replace GM : Hid (Wt wy (some ⟨gM, 0, none⟩) gM (lst (upd nul f ((t2 : Nat) : Int)))) := (by subst hwy; exact wt_drew (wt_upd GM.out hf8) : Wt wy (some ⟨gM, 0, none⟩) gM (lst (upd nul f ((t2 : Nat) : Int))))
          clear hwy x1 cM1 fM ew zR zX
          by_cases hd : c % 2 = 1
          · rw [hd] at eh
            have ew : IntKind.i64.wrap ((h1 : Int) + (p : Int)) = (h2 : Int) := by
              have e : (h1 : Int) + (p : Int) = h2 := by omega
              rw [e]
              exact Get.wraps_i64 _ (by omega) (by omega)
            have hdz : (c : Int) % 2 = 1 := by omega
            clear eh hd lu lh
            go_wp2
            go_region
            go_wp2
            go_roundw
            case rel =>
              refine ⟨j + 1, by omega, by go_num, ?_, (bset hbel (by omega)).drew, blk_set QR.out (Ne.symm d1), blk_set QX.out (Ne.symm d5), by rw [EH2.out]; exact wt_drew (wt_upd GV.out hf8), by rw [ET2.out]; exact wt_drew (wt_set2 GM.out l3)⟩
              · rw [← EB.out]
                go_num
            case measure => simp [intOf]; omega
          · have hd0 : c % 2 = 0 := by omega
            rw [hd0] at eh
            have e12 : h1 = h2 := by omega
            rw [e12] at GV
            have hdz : (c : Int) % 2 = 0 := by omega
            clear eh hd hd0 lu lh e12 x0 cV1 fV
            go_wp2
            go_roundw
            case rel =>
              refine ⟨j + 1, by omega, by go_num, ?_, hbel, QR.out, QX.out, by rw [EH2.out]; exact GV.out, by rw [ET2.out]; exact GM.out⟩
              · rw [← EB.out]
                go_num
            case measure => simp [intOf]; omega
        · have he : j = n := by omega
          subst he
          have hjz : ¬ ((j : Int) < (j : Int)) := by omega
          obtain ⟨s0, s1⟩ := two qR
          have fR := Bl.free qR
          go_wp2
          refine bodyPost_ret (v := .tuple #[.agg #[.slice (some ⟨gV, 0, none⟩) 8 cV, .slice (some ⟨gM, 0, none⟩) 8 cM], .bool true]) (by simp [results, Try.results24, go_sem, s0, s1]) rfl ⟨_, gV, _, _, gM, _, by rw [lst_len, lst_len], ?_, ?_, by omega, by omega, l3, ?_⟩
          · exact wt_set2 (wt_set2 hv (by omega)) (by omega)
          · exact wt_set2 (wt_set2 hm (by omega)) (by omega)
          · exact bset (bset hbel (by omega)) (by omega)

end Go.Proofs.Ytbplpfcplpoeiaa.Mw

/-
  Marks in terms, literals and rules: what they answer and what they leave.
-/
import Derived.Test.YtmpobkbjjnafmaaXg
namespace Go.Proofs.Ytmpobkbjjnafmaa.Xh
set_option maxRecDepth 8000
set_option linter.unusedSimpArgs false
set_option linter.unusedVariables false
open Go Go.ChangeShapes Go.WideShapes Go.RowKit
open Num Pl
open Pm (Tm tm0 Lm lm0 Rm Atm kdTm kdLm kdRm Rd Sl told)
open Xg (Fr)

set_option maxHeartbeats 4000000 in
theorem markTms_any (lo hi : Nat) (wc w0 : World) (s : Sl Tm) (h : Rd kdTm lo wc s) (hb : Below wc.heap.size wc w0) (hlo : lo ≠ 0) (hhi : wc.heap.size ≤ hi) (hl : s.Q.length ≤ 1048576) (k0 : Nat) (hk0 : 0 < k0) (hkb : k0 + 3 * s.Q.length ≤ 100000000) (w : World) (F : Fr lo hi w0 w) :
    Calls Try.prog 64 #[.slice s.a s.Q.length s.c, .int .i64 k0] w fun e w' => e = .returned (.int .i64 ((k0 + 3 * s.Q.length : Nat) : Int)) ∧ Fr lo hi w0 w' := by
  obtain ⟨a, b, o, c, Q⟩ := s
  simp only at hl hkb ⊢
  obtain ⟨n, hn0⟩ : ∃ n, n = Q.length := ⟨_, rfl⟩
  rw [← hn0] at hl hkb ⊢
  have HN : Hid (n = Q.length) := hn0
  have H : Hid (Rd kdTm lo w0 ⟨a, b, o, c, Q⟩) := h.below hb
  have HW : Hid (Rd kdTm lo wc ⟨a, b, o, c, Q⟩) := h
  have HBW : Hid (Below wc.heap.size wc w0) := hb
  have HE : Hid (∀ K i, K = k0 + 3 * i → i = n → K = k0 + 3 * n) := fun K i h1 h2 => by rw [h1, h2]
  have HKB : Hid (k0 + 3 * n ≤ 100000000) := hkb
  have HHI : Hid (wc.heap.size ≤ hi) := hhi
  clear hn0 h hb hkb hhi
  go_enter Try.func64, Try.ntmps64
  go_wp2
  go_loopw [1, 5] (fun q i wr => ∃ k K0 : Nat, k ≤ n ∧ K0 = k0 + 3 * k ∧ q = .int .i64 K0 ∧ i = .int .i64 k ∧ Fr lo hi w0 wr) (fun _ i _ => n - (intOf i).toNat)
  case atStart => exact ⟨0, k0, Nat.zero_le _, rfl, rfl, rfl, F⟩
  case round =>
    obtain ⟨k, K0, hk, hK, rfl, rfl, F0⟩ := hrel
    have HK0 : Hid (K0 = k0 + 3 * k) := hK
    by_cases hlt : k < n
    · have hkz : (k : Int) < (n : Int) := by omega
      have hp : 0 < K0 := by omega
      have b0 : K0 ≤ 100000000 := by have := HKB.out; omega
      clear hK F
      have hQ : k < Q.length := by have := HN.out; omega
      obtain ⟨C0, C1, C2⟩ := Pm.cellsTm H.out hQ
      have hh := H.out.head (by simp only; omega)
      have hg1 := H.out.blk (by simp only; omega)
      have hg2 := HW.out.lt hQ
      obtain ⟨cs, hty⟩ := H.out.ty hlo (by simp only; omega)
      simp only at C0 C1 C2 hh hg1 hg2 hty
      obtain rfl := hh
      have HG : lo ≤ b ∧ b < hi := ⟨hg1, by have := HHI.out; omega⟩
      clear H HW hg1 hg2
      generalize Q.getD k tm0 = y at C0 C1 C2
      obtain ⟨K1, hK1⟩ : ∃ K, K = K0 + 1 := ⟨_, rfl⟩
      have e1 : (K0 : Int) + 1 = (K1 : Int) := by omega
      have HK1 : Hid (K1 = K0 + 1) := hK1
      have b1 : K1 ≤ 200000000 := by omega
      clear hK1
      obtain ⟨K2, hK2⟩ : ∃ K, K = K1 + 1 := ⟨_, rfl⟩
      have e2 : (K1 : Int) + 1 = (K2 : Int) := by omega
      have HK2 : Hid (K2 = K1 + 1) := hK2
      have b2 : K2 ≤ 200000000 := by omega
      clear hK2
      obtain ⟨K3, hK3⟩ : ∃ K, K = K2 + 1 := ⟨_, rfl⟩
      have e3 : (K2 : Int) + 1 = (K3 : Int) := by omega
      have HK3 : Hid (K3 = K2 + 1) := hK3
      have b3 : K3 ≤ 200000000 := by omega
      clear hK3
      have t1 : True := trivial
      go_wp2_with (first
        | (go_at_call 39; clear t1; refine (Mt.text_any K0 (by omega) (by omega) _).mono ?_; rintro e w1 ⟨rfl, hb⟩; have F1 := F0.next hb; clear hb; obtain ⟨⟨x0, p0⟩, f0, _⟩ := Xg.Fr.put (u := .string (Mt.mt K0)) F1 HG hty C0 (Xg.ns_str _) (Xg.ns_str _); obtain ⟨_, _, G0⟩ := Xg.Fr.put (u := .string (Mt.mt K0)) F1 HG hty C0 (Xg.ns_str _) (Xg.ns_str _); obtain ⟨⟨x1, p1⟩, f1, _⟩ := Xg.Fr.put (u := .int .i64 (K1 : Int)) F1 HG hty C1 (Xg.ns_int _ _) (Xg.ns_int _ _); obtain ⟨_, _, G1⟩ := Xg.Fr.put (u := .int .i64 (K1 : Int)) G0 HG hty C1 (Xg.ns_int _ _) (Xg.ns_int _ _))
        | (go_at_call 39; clear p0 f0 p1 f1; refine (Mt.text_any K2 (by omega) (by omega) _).mono ?_; rintro e w2 ⟨rfl, hb⟩; have F2 := G1.next hb; clear hb; obtain ⟨⟨x2, p2⟩, f2, _⟩ := Xg.Fr.put (u := .string (Mt.mt K2)) F2 HG hty C2 (Xg.ns_str _) (Xg.ns_str _); obtain ⟨_, _, G2⟩ := Xg.Fr.put (u := .string (Mt.mt K2)) F2 HG hty C2 (Xg.ns_str _) (Xg.ns_str _)))
      go_roundw
      case rel => exact ⟨k + 1, K3, by omega, by have := HK0.out; have := HK1.out; have := HK2.out; have := HK3.out; omega, rfl, by go_num, G2⟩
      case measure => simp [intOf]; omega
    · have he : k = n := by omega
      have HF : Hid (K0 = k0 + 3 * n) := HE.out _ _ hK he
      subst he
      clear hK
      go_wp2
      go_ret
      exact ⟨by rw [HF.out]; rfl, F0⟩

set_option maxHeartbeats 1000000 in
theorem markAt_any (lo hi : Nat) (wc w0 : World) (x : Atm) (h : x.Ok lo wc) (hb : Below wc.heap.size wc w0) (hlo : lo ≠ 0) (hhi : wc.heap.size ≤ hi) (hl : x.A.Q.length ≤ 1048576) (k0 : Nat) (hk0 : 0 < k0) (hkb : k0 + 3 * x.A.Q.length ≤ 100000000) (w : World) (F : Fr lo hi w0 w) :
    Calls Try.prog 37 #[.agg #[.string x.s, .slice x.A.a x.A.Q.length x.A.c], .int .i64 k0] w fun e w' => e = .returned (.int .i64 ((k0 + 3 * x.A.Q.length : Nat) : Int)) ∧ Fr lo hi w0 w' := by
  have F1 := F.next (below_alloc1 w (.cells #[.string x.s, .slice x.A.a x.A.Q.length x.A.c] 29))
  have hC := markTms_any lo hi wc w0 x.A h.2 hb hlo hhi hl k0 hk0 hkb _ F1
  generalize ((k0 + 3 * x.A.Q.length : Nat) : Int) = R at hC ⊢
  go_enter Try.func37, Try.ntmps37
  go_wp2_with (go_at_call 64; refine hC.mono ?_; rintro e w1 ⟨rfl, F2⟩)
  go_ret
  exact ⟨rfl, F2⟩

/-- How many marks the first k literals take. -/
def cntL (Q : List Lm) : Nat → Nat
  | 0 => 0
  | k + 1 => cntL Q k + (9 + 3 * (Q.getD k lm0).h.A.Q.length)
theorem cntL_le (Q : List Lm) : ∀ k, cntL Q k ≤ 9 * k + 3 * Pm.tot kdLm Q k
  | 0 => Nat.le_refl _
  | k + 1 => by
    have h := cntL_le Q k
    have h2 : (Q.getD k lm0).h.A.Q.length ≤ kdLm.wt (Q.getD k kdLm.z) := by
      show (Q.getD k lm0).h.A.Q.length ≤ (Q.getD k lm0).wt
      unfold Lm.wt Atm.wt Pm.wtS; omega
    simp only [cntL, Pm.tot]
    omega
theorem cntL_mono (Q : List Lm) {i j : Nat} (h : i ≤ j) : cntL Q i ≤ cntL Q j := by
  induction j with
  | zero => have : i = 0 := by omega
            subst this; exact Nat.le_refl _
  | succ j ih =>
    by_cases e : i = j + 1
    · subst e; exact Nat.le_refl _
    · have := ih (by omega)
      simp only [cntL]; omega
set_option maxHeartbeats 8000000 in
theorem markLms_any (lo hi : Nat) (wc w0 : World) (s : Sl Lm) (h : Rd kdLm lo wc s) (hb : Below wc.heap.size wc w0) (hlo : lo ≠ 0) (hhi : wc.heap.size ≤ hi) (hl : Pm.wtS kdLm s.Q ≤ 1048576) (k0 : Nat) (hk0 : 0 < k0) (hkb : k0 ≤ 10000000) (w : World) (F : Fr lo hi w0 w) :
    Calls Try.prog 38 #[.slice s.a s.Q.length s.c, .int .i64 k0] w fun e w' => e = .returned (.int .i64 ((k0 + cntL s.Q s.Q.length : Nat) : Int)) ∧ Fr lo hi w0 w' := by
  obtain ⟨a, b, o, c, Q⟩ := s
  have hwt := fun i (hi : i < Q.length) => Pm.wt_at (K := kdLm) hi
  have hle := cntL_le Q Q.length
  unfold Pm.wtS at hl hwt
  simp only at hl ⊢
  obtain ⟨n, hn0⟩ : ∃ n, n = Q.length := ⟨_, rfl⟩
  rw [← hn0] at hl hle hwt ⊢
  have HN : Hid (n = Q.length) := hn0
  have H : Hid (Rd kdLm lo w0 ⟨a, b, o, c, Q⟩) := h.below hb
  have HW : Hid (Rd kdLm lo wc ⟨a, b, o, c, Q⟩) := h
  have HBW : Hid (Below wc.heap.size wc w0) := hb
  have HKB : Hid (k0 + cntL Q n ≤ 100000000) := by rw [Hid]; omega
  have HM : Hid (∀ i, i < n → cntL Q (i + 1) ≤ cntL Q n) := fun i hi => cntL_mono Q hi
  have HA : Hid (∀ i, i < n → (Q.getD i lm0).h.A.Q.length ≤ 1048576) := fun i hi => by
    have h1 := hwt i hi
    have h2 : (Q.getD i lm0).h.A.Q.length ≤ kdLm.wt (Q.getD i kdLm.z) := by
      show (Q.getD i lm0).h.A.Q.length ≤ (Q.getD i lm0).wt
      unfold Lm.wt Atm.wt Pm.wtS; omega
    omega
  have hn : n ≤ 1048576 := by omega
  have HHI : Hid (wc.heap.size ≤ hi) := hhi
  clear hn0 h hb hkb hhi hl hle hwt
  go_enter Try.func38, Try.ntmps38
  go_wp2
  go_loopw [1, 5] (fun q i wr => ∃ k K0 : Nat, k ≤ n ∧ K0 = k0 + cntL Q k ∧ q = .int .i64 K0 ∧ i = .int .i64 k ∧ Fr lo hi w0 wr) (fun _ i _ => n - (intOf i).toNat)
  case atStart => exact ⟨0, k0, Nat.zero_le _, rfl, rfl, rfl, F⟩
  case round =>
    obtain ⟨k, K0, hk, hK, rfl, rfl, F0⟩ := hrel
    have HK0 : Hid (K0 = k0 + cntL Q k) := hK
    by_cases hlt : k < n
    · have hkz : (k : Int) < (n : Int) := by omega
      have hp : 0 < K0 := by omega
      have hc1 := HM.out k hlt
      have hc2 : cntL Q (k + 1) = cntL Q k + (9 + 3 * (Q.getD k lm0).h.A.Q.length) := rfl
      have HC2 : Hid (cntL Q (k + 1) = cntL Q k + (9 + 3 * (Q.getD k lm0).h.A.Q.length)) := hc2
      have hA := HA.out k hlt
      have b00 : K0 + (9 + 3 * (Q.getD k lm0).h.A.Q.length) ≤ 100000000 := by have := HKB.out; omega
      clear hK F hc1 hc2
      have hQ : k < Q.length := by have := HN.out; omega
      obtain ⟨C0, C1, C2, C3, C4, C5, C6, C7, C8, C9⟩ := Pm.cellsLm H.out hQ
      have hh := H.out.head (by simp only; omega)
      have hg1 := H.out.blk (by simp only; omega)
      have hg2 := HW.out.lt hQ
      have hok : (Q.getD k lm0).Ok lo wc := HW.out.ok k hQ
      obtain ⟨cs, hty⟩ := H.out.ty hlo (by simp only; omega)
      simp only at C0 C1 C2 C3 C4 C5 C6 C7 C8 C9 hh hg1 hg2 hty
      obtain rfl := hh
      have HG : lo ≤ b ∧ b < hi := ⟨hg1, by have := HHI.out; omega⟩
      clear H HW hg1 hg2
      generalize Q.getD k lm0 = y at C0 C1 C2 C3 C4 C5 C6 C7 C8 C9 hok hA b00 HC2
      have HTM : Hid (∀ (w : World) (K : Nat), 0 < K → K + 3 * y.h.A.Q.length ≤ 100000000 → Fr lo hi w0 w → Calls Try.prog 64 #[.slice y.h.A.a y.h.A.Q.length y.h.A.c, .int .i64 K] w fun e w' => e = .returned (.int .i64 ((K + 3 * y.h.A.Q.length : Nat) : Int)) ∧ Fr lo hi w0 w') := fun w K h1 h2 F => markTms_any lo hi wc w0 y.h.A hok.1.2 HBW.out hlo HHI.out hA K h1 h2 w F
      clear hok
      obtain ⟨K1, hK1⟩ : ∃ K, K = K0 + 1 := ⟨_, rfl⟩
      have e1 : (K0 : Int) + 1 = (K1 : Int) := by omega
      have HK1 : Hid (K1 = K0 + 1) := hK1
      have b1 : K1 ≤ 200000000 := by omega
      clear hK1
      obtain ⟨K2, hK2⟩ : ∃ K, K = K1 + 1 := ⟨_, rfl⟩
      have e2 : (K1 : Int) + 1 = (K2 : Int) := by omega
      have HK2 : Hid (K2 = K1 + 1) := hK2
      have b2 : K2 ≤ 200000000 := by omega
      clear hK2
      obtain ⟨K3, hK3⟩ : ∃ K, K = K2 + 3 * y.h.A.Q.length := ⟨_, rfl⟩
      have eT : ((K2 + 3 * y.h.A.Q.length : Nat) : Int) = (K3 : Int) := by rw [hK3]
      have HK3 : Hid (K3 = K2 + 3 * y.h.A.Q.length) := hK3
      have b3 : K3 ≤ 200000000 := by omega
      clear hK3
      obtain ⟨K4, hK4⟩ : ∃ K, K = K3 + 1 := ⟨_, rfl⟩
      have e4 : (K3 : Int) + 1 = (K4 : Int) := by omega
      have HK4 : Hid (K4 = K3 + 1) := hK4
      have b4 : K4 ≤ 200000000 := by omega
      clear hK4
      obtain ⟨K5, hK5⟩ : ∃ K, K = K4 + 1 := ⟨_, rfl⟩
      have e5 : (K4 : Int) + 1 = (K5 : Int) := by omega
      have HK5 : Hid (K5 = K4 + 1) := hK5
      have b5 : K5 ≤ 200000000 := by omega
      clear hK5
      obtain ⟨K6, hK6⟩ : ∃ K, K = K5 + 1 := ⟨_, rfl⟩
      have e6 : (K5 : Int) + 1 = (K6 : Int) := by omega
      have HK6 : Hid (K6 = K5 + 1) := hK6
      have b6 : K6 ≤ 200000000 := by omega
      clear hK6
      obtain ⟨K7, hK7⟩ : ∃ K, K = K6 + 1 := ⟨_, rfl⟩
      have e7 : (K6 : Int) + 1 = (K7 : Int) := by omega
      have HK7 : Hid (K7 = K6 + 1) := hK7
      have b7 : K7 ≤ 200000000 := by omega
      clear hK7
      obtain ⟨K8, hK8⟩ : ∃ K, K = K7 + 1 := ⟨_, rfl⟩
      have e8 : (K7 : Int) + 1 = (K8 : Int) := by omega
      have HK8 : Hid (K8 = K7 + 1) := hK8
      have b8 : K8 ≤ 200000000 := by omega
      clear hK8
      obtain ⟨K9, hK9⟩ : ∃ K, K = K8 + 1 := ⟨_, rfl⟩
      have e9 : (K8 : Int) + 1 = (K9 : Int) := by omega
      have HK9 : Hid (K9 = K8 + 1) := hK9
      have b9 : K9 ≤ 200000000 := by omega
      clear hK9
      obtain ⟨K10, hK10⟩ : ∃ K, K = K9 + 1 := ⟨_, rfl⟩
      have e10 : (K9 : Int) + 1 = (K10 : Int) := by omega
      have HK10 : Hid (K10 = K9 + 1) := hK10
      have b10 : K10 ≤ 200000000 := by omega
      clear hK10
      obtain ⟨⟨x0, p0⟩, f0, _⟩ := Xg.Fr.put (u := .int .i64 (K0 : Int)) F0 HG hty C0 (Xg.ns_int _ _) (Xg.ns_int _ _)
      obtain ⟨_, _, G0⟩ := Xg.Fr.put (u := .int .i64 (K0 : Int)) F0 HG hty C0 (Xg.ns_int _ _) (Xg.ns_int _ _)
      have t1 : True := trivial
      have t2 : True := trivial
      have t3 : True := trivial
      have t4 : True := trivial
      have t5 : True := trivial
      go_wp2_with (first
        | (go_at_call 39; clear t1; clear p0 f0; refine (Mt.text_any K1 (by omega) (by omega) _).mono ?_; rintro e w1 ⟨rfl, hb⟩; have F1 := G0.next hb; clear hb; obtain ⟨⟨x1, p1⟩, f1, _⟩ := Xg.Fr.put (u := .string (Mt.mt K1)) F1 HG hty C1 (Xg.ns_str _) (Xg.ns_str _); obtain ⟨_, _, G1⟩ := Xg.Fr.put (u := .string (Mt.mt K1)) F1 HG hty C1 (Xg.ns_str _) (Xg.ns_str _); have p2 := Xg.Fr.slice F1 hty C2)
        | (go_at_call 64; clear t2; clear p1 f1; clear p2; refine (HTM.out _ K2 (by omega) (by omega) G1).mono ?_; rintro e w2 ⟨rfl, F2⟩; rw [eT]; obtain ⟨⟨x3, p3⟩, f3, _⟩ := Xg.Fr.put (u := .int .i64 (K3 : Int)) F2 HG hty C3 (Xg.ns_int _ _) (Xg.ns_int _ _); obtain ⟨_, _, G3⟩ := Xg.Fr.put (u := .int .i64 (K3 : Int)) F2 HG hty C3 (Xg.ns_int _ _) (Xg.ns_int _ _))
        | (go_at_call 39; clear t3; clear p3 f3; refine (Mt.text_any K4 (by omega) (by omega) _).mono ?_; rintro e w3 ⟨rfl, hb⟩; have F3 := G3.next hb; clear hb; obtain ⟨⟨x4, p4⟩, f4, _⟩ := Xg.Fr.put (u := .string (Mt.mt K4)) F3 HG hty C4 (Xg.ns_str _) (Xg.ns_str _); obtain ⟨_, _, G4⟩ := Xg.Fr.put (u := .string (Mt.mt K4)) F3 HG hty C4 (Xg.ns_str _) (Xg.ns_str _); obtain ⟨⟨x5, p5⟩, f5, _⟩ := Xg.Fr.put (u := .int .i64 (K5 : Int)) F3 HG hty C5 (Xg.ns_int _ _) (Xg.ns_int _ _); obtain ⟨_, _, G5⟩ := Xg.Fr.put (u := .int .i64 (K5 : Int)) G4 HG hty C5 (Xg.ns_int _ _) (Xg.ns_int _ _))
        | (go_at_call 39; clear t4; clear p4 f4 p5 f5; refine (Mt.text_any K6 (by omega) (by omega) _).mono ?_; rintro e w4 ⟨rfl, hb⟩; have F4 := G5.next hb; clear hb; obtain ⟨⟨x6, p6⟩, f6, _⟩ := Xg.Fr.put (u := .string (Mt.mt K6)) F4 HG hty C6 (Xg.ns_str _) (Xg.ns_str _); obtain ⟨_, _, G6⟩ := Xg.Fr.put (u := .string (Mt.mt K6)) F4 HG hty C6 (Xg.ns_str _) (Xg.ns_str _))
        | (go_at_call 39; clear t5; clear p6 f6; refine (Mt.text_any K7 (by omega) (by omega) _).mono ?_; rintro e w5 ⟨rfl, hb⟩; have F5 := G6.next hb; clear hb; obtain ⟨⟨x7, p7⟩, f7, _⟩ := Xg.Fr.put (u := .string (Mt.mt K7)) F5 HG hty C7 (Xg.ns_str _) (Xg.ns_str _); obtain ⟨_, _, G7⟩ := Xg.Fr.put (u := .string (Mt.mt K7)) F5 HG hty C7 (Xg.ns_str _) (Xg.ns_str _); obtain ⟨⟨x8, p8⟩, f8, _⟩ := Xg.Fr.put (u := .int .i64 (K8 : Int)) F5 HG hty C8 (Xg.ns_int _ _) (Xg.ns_int _ _); obtain ⟨_, _, G8⟩ := Xg.Fr.put (u := .int .i64 (K8 : Int)) G7 HG hty C8 (Xg.ns_int _ _) (Xg.ns_int _ _))
        | (go_at_call 39; clear p7 f7 p8 f8; refine (Mt.text_any K9 (by omega) (by omega) _).mono ?_; rintro e w6 ⟨rfl, hb⟩; have F6 := G8.next hb; clear hb; obtain ⟨⟨x9, p9⟩, f9, _⟩ := Xg.Fr.put (u := .string (Mt.mt K9)) F6 HG hty C9 (Xg.ns_str _) (Xg.ns_str _); obtain ⟨_, _, G9⟩ := Xg.Fr.put (u := .string (Mt.mt K9)) F6 HG hty C9 (Xg.ns_str _) (Xg.ns_str _)))
      go_roundw
      case rel => exact ⟨k + 1, K10, by omega, by have := HK0.out; have := HK1.out; have := HK2.out; have := HK3.out; have := HK4.out; have := HK5.out; have := HK6.out; have := HK7.out; have := HK8.out; have := HK9.out; have := HK10.out; rw [HC2.out]; omega, rfl, by go_num, G9⟩
      case measure => simp [intOf]; omega
    · have he : k = n := by omega
      subst he
      have HF : Hid (K0 = k0 + cntL Q k) := hK
      clear hK
      go_wp2
      go_ret
      exact ⟨by rw [HF.out]; rfl, F0⟩

end Go.Proofs.Ytmpobkbjjnafmaa.Xh

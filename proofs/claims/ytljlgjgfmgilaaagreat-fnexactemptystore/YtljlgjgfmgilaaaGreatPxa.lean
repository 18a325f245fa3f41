/-
  Texts laid together: Mt, Xg, Xh, Xk.
-/
import Derived.Test.YtljlgjgfmgilaaaGreatWord
import Derived.Test.YtljlgjgfmgilaaaGreatPl
import Derived.BigQuiet
import Derived.Deep.RegionHeld3
import Derived.Test.YtljlgjgfmgilaaaGreatPrb
import Derived.Test.YtljlgjgfmgilaaaGreatPrd
namespace Go.Proofs.YtljlgjgfmgilaaaGreat.Mt
open Go Go.RowKit
set_option maxRecDepth 8000
set_option linter.unusedVariables false
set_option linter.unusedSimpArgs false
open Num Word Pl

def dgt (d : Nat) : UInt8 := UInt8.ofNat (48 + d)
theorem one_byte (W : World) (b d : Nat) (hd : d < 10) (h : W.cell? ⟨b, 0, none⟩ = some (.int .u8 (48 + (d : Int)))) :
    (convert 134 9 (.slice (some ⟨b, 0, none⟩) 1 1)).run Tryz.prog W = .ok (.string ⟨#[dgt d]⟩) W := by
  have e : (((dgt d).toNat : Nat) : Int) = 48 + (d : Int) := by unfold dgt; simp only [UInt8.toNat_ofNat']; omega
  have := run_convert_bytes_back (P := Tryz.prog) W 134 9 5 ⟨b, 0, none⟩ 1 [dgt d] Tryz.underlying134 Tryz.underlying5 Tryz.underlying9 (fun j hj => by
    have : j = 0 := by simpa using hj
    subst this
    rw [show ([dgt d][0]'hj) = dgt d from rfl, e]
    simpa [Addr.add] using h)
  simpa using this
/-- The digits of k ahead of what is there; f: no more steps than that. -/
def mtF : Nat → Nat → ByteArray → ByteArray
  | 0, _, s => s
  | f + 1, k, s => if k = 0 then s else mtF f (k / 10) (⟨#[dgt (k % 10)]⟩ ++ s)
theorem mtF_more : ∀ (f k : Nat) (s : ByteArray), k ≤ f → mtF (f + 1) k s = mtF f k s
  | 0, k, s, h => by have : k = 0 := by omega
                     subst this; rfl
  | f + 1, k, s, h => by
    show (if k = 0 then s else mtF (f + 1) (k / 10) (⟨#[dgt (k % 10)]⟩ ++ s)) = (if k = 0 then s else mtF f (k / 10) (⟨#[dgt (k % 10)]⟩ ++ s))
    by_cases e : k = 0
    · rw [if_pos e, if_pos e]
    · rw [if_neg e, if_neg e]
      exact mtF_more f (k / 10) _ (by omega)
def mtG (k : Nat) (s : ByteArray) : ByteArray := mtF k k s
theorem mtF_eq : ∀ (f k : Nat) (s : ByteArray), k ≤ f → mtF f k s = mtG k s := by
  intro f
  induction f with
  | zero => intro k s h; have : k = 0 := by omega
            subst this; rfl
  | succ f ih =>
    intro k s h
    by_cases e : k = f + 1
    · subst e; rfl
    · rw [mtF_more f k s (by omega)]; exact ih k s (by omega)
theorem mtG_step {k : Nat} (h : 0 < k) (s : ByteArray) : mtG k s = mtG (k / 10) (⟨#[dgt (k % 10)]⟩ ++ s) := by
  obtain ⟨f, rfl⟩ : ∃ f, k = f + 1 := ⟨k - 1, by omega⟩
  unfold mtG
  rw [mtF, if_neg (by omega)]
  exact mtF_eq f _ _ (by omega)
theorem mtG_zero (s : ByteArray) : mtG 0 s = s := rfl
/-- The text of a mark. -/
def mt (k : Nat) : ByteArray := ⟨#[109]⟩ ++ mtG k ⟨#[]⟩

set_option maxHeartbeats 1000000 in
theorem text_any (k0 : Nat) (h0 : 0 < k0) (h1 : k0 ≤ 1000000000000) (w : World) :
    Calls Tryz.prog 66 #[.int .i64 k0] w fun e w' => e = .returned (.string (mt k0)) ∧ Below w.heap.size w w' := by
  have hk : ¬ (k0 : Int) ≤ 0 := by omega
  unfold mt
  obtain ⟨R, hR⟩ : ∃ R, R = mtG k0 ⟨#[]⟩ := ⟨_, rfl⟩
  rw [← hR]
  have H0 : Hid (mtG k0 ⟨#[]⟩ = R) := hR.symm
  clear hR
  go_enter Tryz.func66, Tryz.ntmps66
  go_wp2
  go_loopw [0, 3] (fun a b wr => ∃ (k : Nat) (s : ByteArray), k ≤ k0 ∧ a = .int .i64 k ∧ b = .string s ∧ Below w.heap.size w wr ∧ mtG k s = R ∧ s.size + k ≤ k0) (fun a _ _ => (intOf a).toNat)
  case atStart => exact ⟨k0, _, Nat.le_refl _, rfl, rfl, Below.refl _ _, H0.out, by show 0 + k0 ≤ k0; omega⟩
  case round =>
    obtain ⟨k, s, hk, rfl, rfl, hbel, hm, hsz⟩ := hrel
    have HSz : Hid (s.size + k ≤ k0) := hsz
    have hs1 : s.size ≤ 1000000000000 := by omega
    clear hsz
    by_cases hp : 0 < k
    · have hpz : (0 : Int) < (k : Int) := by omega
      have HM : Hid (mtG (k / 10) (⟨#[dgt (k % 10)]⟩ ++ s) = R) := (mtG_step hp s).symm.trans hm
      clear hm
      obtain ⟨d, hd⟩ : ∃ d, d = k % 10 := ⟨_, rfl⟩
      obtain ⟨q, hq⟩ : ∃ q, q = k / 10 := ⟨_, rfl⟩
      rw [← hd, ← hq] at HM
      have hq2 : q < k := by omega
      have e1 : Int.tmod (k : Int) 10 = (d : Int) := by rw [hd]; simp [Int.tmod]
      have e2 : Int.tdiv (k : Int) 10 = (q : Int) := by rw [hq]; rfl
      have hd9 : d < 10 := by omega
      clear hd hq
      have hB := below_alloc1 wr (.cells #[.int .u8 (48 + (d : Int))] 5)
      have hcv := one_byte (wr.alloc (.cells #[.int .u8 (48 + (d : Int))] 5)) wr.heap.size d hd9 (one (at_new rfl))
      go_wp2
      go_roundw
      case rel => exact ⟨q, _, by omega, rfl, rfl, Rw.next hbel hB, HM.out, by have := HSz.out; rw [ByteArray.size_append]; show 1 + s.size + q ≤ k0; omega⟩
      case measure => simp [intOf]; omega
    · have e : k = 0 := by omega
      subst e
      rw [mtG_zero] at hm
      have HM : Hid (s = R) := hm
      clear hm
      go_wp2
      go_ret
      exact ⟨by rw [← HM.out]; rfl, hbel⟩

end Go.Proofs.YtljlgjgfmgilaaaGreat.Mt

namespace Go.Proofs.YtljlgjgfmgilaaaGreat.Xg
set_option maxRecDepth 8000
set_option linter.unusedSimpArgs false
set_option linter.unusedVariables false
open Go Go.ChangeShapes Go.WideShapes Go.RowKit
open Num Pl
open Pm (Tm tm0 Lm lm0 Rm Atm kdTm kdLm kdRm Rd Sl told)

def isS (v : Value) : Prop := ∃ a n c, v = .slice a n c
/-- Of the blocks from lo on and below hi cells may be written, but none that holds a slice. -/
structure Fr (lo hi : Nat) (w w' : World) : Prop where
  os : w'.os = w.os
  tape : w'.tape = w.tape
  output : w'.output = w.output
  size : w.heap.size ≤ w'.heap.size
  out : ∀ z : Nat, z < w.heap.size → ¬ (lo ≤ z ∧ z < hi) → w'.heap[z]? = w.heap[z]?
  shp : ∀ (z : Nat) (cs : Array Value) (t : TypeId), w.heap[z]? = some (.cells cs t (0, 0)) → ∃ cs' : Array Value, w'.heap[z]? = some (.cells cs' t (0, 0)) ∧ cs'.size = cs.size ∧ ∀ (j : Nat) (v : Value), isS v → (cs'[j]? = some v ↔ cs[j]? = some v)
variable {lo hi : Nat} {w w1 w2 : World}
theorem Fr.refl (lo hi : Nat) (w : World) : Fr lo hi w w := ⟨rfl, rfl, rfl, Nat.le_refl _, fun _ _ _ => rfl, fun z cs t h => ⟨cs, h, rfl, fun _ _ _ => Iff.rfl⟩⟩
theorem Fr.trans (h : Fr lo hi w w1) (k : Fr lo hi w1 w2) : Fr lo hi w w2 :=
  ⟨k.os.trans h.os, k.tape.trans h.tape, k.output.trans h.output, Nat.le_trans h.size k.size, fun z hz hp => (k.out z (Nat.lt_of_lt_of_le hz h.size) hp).trans (h.out z hz hp), fun z cs t q => by
    obtain ⟨c1, q1, s1, i1⟩ := h.shp z cs t q
    obtain ⟨c2, q2, s2, i2⟩ := k.shp z c1 t q1
    exact ⟨c2, q2, s2.trans s1, fun j v hv => (i2 j v hv).trans (i1 j v hv)⟩⟩
theorem Fr.next (h : Fr lo hi w w1) (hb : Below w1.heap.size w1 w2) : Fr lo hi w w2 :=
  h.trans ⟨hb.os, hb.tape, hb.output, hb.size, fun z hz _ => hb.block z hz, fun z cs t q => ⟨cs, (hb.block z (blk_lt q)).trans q, rfl, fun _ _ _ => Iff.rfl⟩⟩
theorem Fr.set {g j : Nat} {u v : Value} {cs : Array Value} {t : TypeId} (h : Fr lo hi w w1) (hg : lo ≤ g ∧ g < hi) (hc : w1.heap[g]? = some (.cells cs t (0, 0))) (hv : cs[j]? = some v) (hnv : ¬ isS v) (hu : ¬ isS u) : Fr lo hi w (w1.setCell ⟨g, j, none⟩ u) :=
  h.trans ⟨rfl, rfl, rfl, by simp, fun z _ hp => Below.heap_setCell _ _ _ _ (fun e : z = g => hp (by rw [e]; exact hg)), fun z ds t' q => by
    by_cases e : z = g
    · subst e
      rw [hc] at q
      simp only [Option.some.injEq, Obj.cells.injEq] at q
      obtain ⟨rfl, rfl, _⟩ := q
      refine ⟨cs.setIfInBounds j u, by simp [World.setCell, Array.getElem?_modify, hc], by simp, fun i x hx => ?_⟩
      rw [Array.getElem?_setIfInBounds]
      by_cases ei : j = i
      · subst ei
        rw [if_pos rfl, hv]
        constructor
        · intro q
          split at q
          · obtain rfl := Option.some.inj q; exact absurd hx hu
          · cases q
        · intro q
          obtain rfl := Option.some.inj q; exact absurd hx hnv
      · rw [if_neg ei]
    · exact ⟨ds, (Below.heap_setCell _ _ _ _ (by exact e)).trans q, rfl, fun _ _ _ => Iff.rfl⟩⟩
/-- A cell that held no slice holds none, and may be written. -/
theorem Fr.cell {g j : Nat} {v : Value} {cs : Array Value} {t : TypeId} (h : Fr lo hi w w1) (hc : w.heap[g]? = some (.cells cs t (0, 0))) (hv : w.cell? ⟨g, j, none⟩ = some v) (hn : ¬ isS v) :
    ∃ cs' u, w1.heap[g]? = some (.cells cs' t (0, 0)) ∧ cs'[j]? = some u ∧ ¬ isS u := by
  obtain ⟨cs', q, hs, hi⟩ := h.shp g cs t hc
  have hv' : cs[j]? = some v := by simpa [World.cell?, hc] using hv
  have hj : j < cs'.size := by rw [hs]; exact (Array.getElem?_eq_some_iff.1 hv').1
  refine ⟨cs', cs'[j], q, by simp [hj], fun hu => ?_⟩
  have := (hi j _ hu).1 (by simp [hj])
  rw [hv'] at this
  obtain rfl := Option.some.inj this
  exact hn hu
/-- A cell that held a slice holds it. -/
theorem Fr.slice {g j : Nat} {a : Option Addr} {n c : Nat} {cs : Array Value} {t : TypeId} (h : Fr lo hi w w1) (hc : w.heap[g]? = some (.cells cs t (0, 0))) (hv : w.cell? ⟨g, j, none⟩ = some (.slice a n c)) : w1.cell? ⟨g, j, none⟩ = some (.slice a n c) := by
  obtain ⟨cs', q, hs, hi⟩ := h.shp g cs t hc
  have hv' : cs[j]? = some (.slice a n c) := by simpa [World.cell?, hc] using hv
  have := (hi j _ ⟨a, n, c, rfl⟩).2 hv'
  simpa [World.cell?, q] using this
theorem ns_str (s : ByteArray) : ¬ isS (.string s) := fun ⟨_, _, _, e⟩ => by cases e
theorem ns_int (k : IntKind) (i : Int) : ¬ isS (.int k i) := fun ⟨_, _, _, e⟩ => by cases e
/-- One store into such a cell: what the walk asks, and what it leaves. -/
theorem Fr.put {g j : Nat} {v u : Value} {cs : Array Value} {t : TypeId} (h : Fr lo hi w w1) (hg : lo ≤ g ∧ g < hi) (hc : w.heap[g]? = some (.cells cs t (0, 0))) (hv : w.cell? ⟨g, j, none⟩ = some v) (hn : ¬ isS v) (hu : ¬ isS u) :
    (∃ x, w1.cell? ⟨g, j, none⟩ = some x) ∧ w1.frozen? ⟨g, j, none⟩ = false ∧ Fr lo hi w (w1.setCell ⟨g, j, none⟩ u) := by
  obtain ⟨cs', x, q, hx, hnx⟩ := h.cell hc hv hn
  exact ⟨⟨x, by simp [World.cell?, q, hx]⟩, by simp [World.frozen?, q], h.set hg q hx hnx hu⟩

end Go.Proofs.YtljlgjgfmgilaaaGreat.Xg

namespace Go.Proofs.YtljlgjgfmgilaaaGreat.Xh
set_option maxRecDepth 8000
set_option linter.unusedSimpArgs false
set_option linter.unusedVariables false
open Go Go.ChangeShapes Go.WideShapes Go.RowKit
open Num Pl
open Pm (Tm tm0 Lm lm0 Rm Atm kdTm kdLm kdRm Rd Sl told)
open Xg (Fr)

set_option maxHeartbeats 4000000 in
theorem markTms_any (lo hi : Nat) (wc w0 : World) (s : Sl Tm) (h : Rd kdTm lo wc s) (hb : Below wc.heap.size wc w0) (hlo : lo ≠ 0) (hhi : wc.heap.size ≤ hi) (hl : s.Q.length ≤ 1048576) (k0 : Nat) (hk0 : 0 < k0) (hkb : k0 + 3 * s.Q.length ≤ 100000000) (w : World) (F : Fr lo hi w0 w) :
    Calls Tryz.prog 67 #[.slice s.a s.Q.length s.c, .int .i64 k0] w fun e w' => e = .returned (.int .i64 ((k0 + 3 * s.Q.length : Nat) : Int)) ∧ Fr lo hi w0 w' := by
  obtain ⟨a, b, o, c, Q⟩ := s
  simp only at hl hkb ⊢
  obtain ⟨n, hn0⟩ : ∃ n, n = Q.length := ⟨_, rfl⟩
  rw [← hn0] at hl hkb ⊢
  have HN : Hid (n = Q.length) := hn0
  have H : Hid (Rd kdTm lo w0 ⟨a, b, o, c, Q⟩) := h.below hb
  have HW : Hid (Rd kdTm lo wc ⟨a, b, o, c, Q⟩) := h
  have HBW : Hid (Below wc.heap.size wc w0) := hb
  have HE : Hid (∀ K i, K = k0 + 3 * i → i = n → K = k0 + 3 * n) := fun K i h1 h2 => by rw [h1, h2]
  have HKB : Hid (k0 + 3 * n ≤ 100000000) := hkb
  have HHI : Hid (wc.heap.size ≤ hi) := hhi
  clear hn0 h hb hkb hhi
  go_enter Tryz.func67, Tryz.ntmps67
  go_wp2
  go_loopw [1, 5] (fun q i wr => ∃ k K0 : Nat, k ≤ n ∧ K0 = k0 + 3 * k ∧ q = .int .i64 K0 ∧ i = .int .i64 k ∧ Fr lo hi w0 wr) (fun _ i _ => n - (intOf i).toNat)
  case atStart => exact ⟨0, k0, Nat.zero_le _, rfl, rfl, rfl, F⟩
  case round =>
    obtain ⟨k, K0, hk, hK, rfl, rfl, F0⟩ := hrel
    have HK0 : Hid (K0 = k0 + 3 * k) := hK
    by_cases hlt : k < n
    · have hkz : (k : Int) < (n : Int) := by omega
      have hp : 0 < K0 := by omega
      have b0 : K0 ≤ 100000000 := by have := HKB.out; omega
      clear hK F
      have hQ : k < Q.length := by have := HN.out; omega
      obtain ⟨C0, C1, C2⟩ := Pm.cellsTm H.out hQ
      have hh := H.out.head (by simp only; omega)
      have hg1 := H.out.blk (by simp only; omega)
      have hg2 := HW.out.lt hQ
      obtain ⟨cs, hty⟩ := H.out.ty hlo (by simp only; omega)
      simp only at C0 C1 C2 hh hg1 hg2 hty
      obtain rfl := hh
      have HG : lo ≤ b ∧ b < hi := ⟨hg1, by have := HHI.out; omega⟩
      clear H HW hg1 hg2
      generalize Q.getD k tm0 = y at C0 C1 C2
      obtain ⟨K1, hK1⟩ : ∃ K, K = K0 + 1 := ⟨_, rfl⟩
      have e1 : (K0 : Int) + 1 = (K1 : Int) := by omega
      have HK1 : Hid (K1 = K0 + 1) := hK1
      have b1 : K1 ≤ 200000000 := by omega
      clear hK1
      obtain ⟨K2, hK2⟩ : ∃ K, K = K1 + 1 := ⟨_, rfl⟩
      have e2 : (K1 : Int) + 1 = (K2 : Int) := by omega
      have HK2 : Hid (K2 = K1 + 1) := hK2
      have b2 : K2 ≤ 200000000 := by omega
      clear hK2
      obtain ⟨K3, hK3⟩ : ∃ K, K = K2 + 1 := ⟨_, rfl⟩
      have e3 : (K2 : Int) + 1 = (K3 : Int) := by omega
      have HK3 : Hid (K3 = K2 + 1) := hK3
      have b3 : K3 ≤ 200000000 := by omega
      clear hK3
      have t1 : True := trivial
      go_wp2_with (first
        | (go_at_call 66; clear t1; refine (Mt.text_any K0 (by omega) (by omega) _).mono ?_; rintro e w1 ⟨rfl, hb⟩; have F1 := F0.next hb; clear hb; obtain ⟨⟨x0, p0⟩, f0, _⟩ := Xg.Fr.put (u := .string (Mt.mt K0)) F1 HG hty C0 (Xg.ns_str _) (Xg.ns_str _); obtain ⟨_, _, G0⟩ := Xg.Fr.put (u := .string (Mt.mt K0)) F1 HG hty C0 (Xg.ns_str _) (Xg.ns_str _); obtain ⟨⟨x1, p1⟩, f1, _⟩ := Xg.Fr.put (u := .int .i64 (K1 : Int)) F1 HG hty C1 (Xg.ns_int _ _) (Xg.ns_int _ _); obtain ⟨_, _, G1⟩ := Xg.Fr.put (u := .int .i64 (K1 : Int)) G0 HG hty C1 (Xg.ns_int _ _) (Xg.ns_int _ _))
        | (go_at_call 66; clear p0 f0 p1 f1; refine (Mt.text_any K2 (by omega) (by omega) _).mono ?_; rintro e w2 ⟨rfl, hb⟩; have F2 := G1.next hb; clear hb; obtain ⟨⟨x2, p2⟩, f2, _⟩ := Xg.Fr.put (u := .string (Mt.mt K2)) F2 HG hty C2 (Xg.ns_str _) (Xg.ns_str _); obtain ⟨_, _, G2⟩ := Xg.Fr.put (u := .string (Mt.mt K2)) F2 HG hty C2 (Xg.ns_str _) (Xg.ns_str _)))
      go_roundw
      case rel => exact ⟨k + 1, K3, by omega, by have := HK0.out; have := HK1.out; have := HK2.out; have := HK3.out; omega, rfl, by go_num, G2⟩
      case measure => simp [intOf]; omega
    · have he : k = n := by omega
      have HF : Hid (K0 = k0 + 3 * n) := HE.out _ _ hK he
      subst he
      clear hK
      go_wp2
      go_ret
      exact ⟨by rw [HF.out]; rfl, F0⟩

/-- How many marks the first k literals take. -/
def cntL (Q : List Lm) : Nat → Nat
  | 0 => 0
  | k + 1 => cntL Q k + (9 + 3 * (Q.getD k lm0).h.A.Q.length)
theorem cntL_le (Q : List Lm) : ∀ k, cntL Q k ≤ 9 * k + 3 * Pm.tot kdLm Q k
  | 0 => Nat.le_refl _
  | k + 1 => by
    have h := cntL_le Q k
    have h2 : (Q.getD k lm0).h.A.Q.length ≤ kdLm.wt (Q.getD k kdLm.z) := by
      show (Q.getD k lm0).h.A.Q.length ≤ (Q.getD k lm0).wt
      unfold Lm.wt Atm.wt Pm.wtS; omega
    simp only [cntL, Pm.tot]
    omega
theorem cntL_mono (Q : List Lm) {i j : Nat} (h : i ≤ j) : cntL Q i ≤ cntL Q j := by
  induction j with
  | zero => have : i = 0 := by omega
            subst this; exact Nat.le_refl _
  | succ j ih =>
    by_cases e : i = j + 1
    · subst e; exact Nat.le_refl _
    · have := ih (by omega)
      simp only [cntL]; omega
set_option maxHeartbeats 8000000 in
theorem markLms_any (lo hi : Nat) (wc w0 : World) (s : Sl Lm) (h : Rd kdLm lo wc s) (hb : Below wc.heap.size wc w0) (hlo : lo ≠ 0) (hhi : wc.heap.size ≤ hi) (hl : Pm.wtS kdLm s.Q ≤ 1048576) (k0 : Nat) (hk0 : 0 < k0) (hkb : k0 ≤ 10000000) (w : World) (F : Fr lo hi w0 w) :
    Calls Tryz.prog 68 #[.slice s.a s.Q.length s.c, .int .i64 k0] w fun e w' => e = .returned (.int .i64 ((k0 + cntL s.Q s.Q.length : Nat) : Int)) ∧ Fr lo hi w0 w' := by
  obtain ⟨a, b, o, c, Q⟩ := s
  have hwt := fun i (hi : i < Q.length) => Pm.wt_at (K := kdLm) hi
  have hle := cntL_le Q Q.length
  unfold Pm.wtS at hl hwt
  simp only at hl ⊢
  obtain ⟨n, hn0⟩ : ∃ n, n = Q.length := ⟨_, rfl⟩
  rw [← hn0] at hl hle hwt ⊢
  have HN : Hid (n = Q.length) := hn0
  have H : Hid (Rd kdLm lo w0 ⟨a, b, o, c, Q⟩) := h.below hb
  have HW : Hid (Rd kdLm lo wc ⟨a, b, o, c, Q⟩) := h
  have HBW : Hid (Below wc.heap.size wc w0) := hb
  have HKB : Hid (k0 + cntL Q n ≤ 100000000) := by rw [Hid]; omega
  have HM : Hid (∀ i, i < n → cntL Q (i + 1) ≤ cntL Q n) := fun i hi => cntL_mono Q hi
  have HA : Hid (∀ i, i < n → (Q.getD i lm0).h.A.Q.length ≤ 1048576) := fun i hi => by
    have h1 := hwt i hi
    have h2 : (Q.getD i lm0).h.A.Q.length ≤ kdLm.wt (Q.getD i kdLm.z) := by
      show (Q.getD i lm0).h.A.Q.length ≤ (Q.getD i lm0).wt
      unfold Lm.wt Atm.wt Pm.wtS; omega
    omega
  have hn : n ≤ 1048576 := by omega
  have HHI : Hid (wc.heap.size ≤ hi) := hhi
  clear hn0 h hb hkb hhi hl hle hwt
  go_enter Tryz.func68, Tryz.ntmps68
  go_wp2
  go_loopw [1, 5] (fun q i wr => ∃ k K0 : Nat, k ≤ n ∧ K0 = k0 + cntL Q k ∧ q = .int .i64 K0 ∧ i = .int .i64 k ∧ Fr lo hi w0 wr) (fun _ i _ => n - (intOf i).toNat)
  case atStart => exact ⟨0, k0, Nat.zero_le _, rfl, rfl, rfl, F⟩
  case round =>
    obtain ⟨k, K0, hk, hK, rfl, rfl, F0⟩ := hrel
    have HK0 : Hid (K0 = k0 + cntL Q k) := hK
    by_cases hlt : k < n
    · have hkz : (k : Int) < (n : Int) := by omega
      have hp : 0 < K0 := by omega
      have hc1 := HM.out k hlt
      have hc2 : cntL Q (k + 1) = cntL Q k + (9 + 3 * (Q.getD k lm0).h.A.Q.length) := rfl
      have HC2 : Hid (cntL Q (k + 1) = cntL Q k + (9 + 3 * (Q.getD k lm0).h.A.Q.length)) := hc2
      have hA := HA.out k hlt
      have b00 : K0 + (9 + 3 * (Q.getD k lm0).h.A.Q.length) ≤ 100000000 := by have := HKB.out; omega
      clear hK F hc1 hc2
      have hQ : k < Q.length := by have := HN.out; omega
      obtain ⟨C0, C1, C2, C3, C4, C5, C6, C7, C8, C9⟩ := Pm.cellsLm H.out hQ
      have hh := H.out.head (by simp only; omega)
      have hg1 := H.out.blk (by simp only; omega)
      have hg2 := HW.out.lt hQ
      have hok : (Q.getD k lm0).Ok lo wc := HW.out.ok k hQ
      obtain ⟨cs, hty⟩ := H.out.ty hlo (by simp only; omega)
      simp only at C0 C1 C2 C3 C4 C5 C6 C7 C8 C9 hh hg1 hg2 hty
      obtain rfl := hh
      have HG : lo ≤ b ∧ b < hi := ⟨hg1, by have := HHI.out; omega⟩
      clear H HW hg1 hg2
      generalize Q.getD k lm0 = y at C0 C1 C2 C3 C4 C5 C6 C7 C8 C9 hok hA b00 HC2
      have HTM : Hid (∀ (w : World) (K : Nat), 0 < K → K + 3 * y.h.A.Q.length ≤ 100000000 → Fr lo hi w0 w → Calls Tryz.prog 67 #[.slice y.h.A.a y.h.A.Q.length y.h.A.c, .int .i64 K] w fun e w' => e = .returned (.int .i64 ((K + 3 * y.h.A.Q.length : Nat) : Int)) ∧ Fr lo hi w0 w') := fun w K h1 h2 F => markTms_any lo hi wc w0 y.h.A hok.1.2 HBW.out hlo HHI.out hA K h1 h2 w F
      clear hok
      obtain ⟨K1, hK1⟩ : ∃ K, K = K0 + 1 := ⟨_, rfl⟩
      have e1 : (K0 : Int) + 1 = (K1 : Int) := by omega
      have HK1 : Hid (K1 = K0 + 1) := hK1
      have b1 : K1 ≤ 200000000 := by omega
      clear hK1
      obtain ⟨K2, hK2⟩ : ∃ K, K = K1 + 1 := ⟨_, rfl⟩
      have e2 : (K1 : Int) + 1 = (K2 : Int) := by omega
      have HK2 : Hid (K2 = K1 + 1) := hK2
      have b2 : K2 ≤ 200000000 := by omega
      clear hK2
      obtain ⟨K3, hK3⟩ : ∃ K, K = K2 + 3 * y.h.A.Q.length := ⟨_, rfl⟩
      have eT : ((K2 + 3 * y.h.A.Q.length : Nat) : Int) = (K3 : Int) := by rw [hK3]
      have HK3 : Hid (K3 = K2 + 3 * y.h.A.Q.length) := hK3
      have b3 : K3 ≤ 200000000 := by omega
      clear hK3
      obtain ⟨K4, hK4⟩ : ∃ K, K = K3 + 1 := ⟨_, rfl⟩
      have e4 : (K3 : Int) + 1 = (K4 : Int) := by omega
      have HK4 : Hid (K4 = K3 + 1) := hK4
      have b4 : K4 ≤ 200000000 := by omega
      clear hK4
      obtain ⟨K5, hK5⟩ : ∃ K, K = K4 + 1 := ⟨_, rfl⟩
      have e5 : (K4 : Int) + 1 = (K5 : Int) := by omega
      have HK5 : Hid (K5 = K4 + 1) := hK5
      have b5 : K5 ≤ 200000000 := by omega
      clear hK5
      obtain ⟨K6, hK6⟩ : ∃ K, K = K5 + 1 := ⟨_, rfl⟩
      have e6 : (K5 : Int) + 1 = (K6 : Int) := by omega
      have HK6 : Hid (K6 = K5 + 1) := hK6
      have b6 : K6 ≤ 200000000 := by omega
      clear hK6
      obtain ⟨K7, hK7⟩ : ∃ K, K = K6 + 1 := ⟨_, rfl⟩
      have e7 : (K6 : Int) + 1 = (K7 : Int) := by omega
      have HK7 : Hid (K7 = K6 + 1) := hK7
      have b7 : K7 ≤ 200000000 := by omega
      clear hK7
      obtain ⟨K8, hK8⟩ : ∃ K, K = K7 + 1 := ⟨_, rfl⟩
      have e8 : (K7 : Int) + 1 = (K8 : Int) := by omega
      have HK8 : Hid (K8 = K7 + 1) := hK8
      have b8 : K8 ≤ 200000000 := by omega
      clear hK8
      obtain ⟨K9, hK9⟩ : ∃ K, K = K8 + 1 := ⟨_, rfl⟩
      have e9 : (K8 : Int) + 1 = (K9 : Int) := by omega
      have HK9 : Hid (K9 = K8 + 1) := hK9
      have b9 : K9 ≤ 200000000 := by omega
      clear hK9
      obtain ⟨K10, hK10⟩ : ∃ K, K = K9 + 1 := ⟨_, rfl⟩
      have e10 : (K9 : Int) + 1 = (K10 : Int) := by omega
      have HK10 : Hid (K10 = K9 + 1) := hK10
      have b10 : K10 ≤ 200000000 := by omega
      clear hK10
      obtain ⟨⟨x0, p0⟩, f0, _⟩ := Xg.Fr.put (u := .int .i64 (K0 : Int)) F0 HG hty C0 (Xg.ns_int _ _) (Xg.ns_int _ _)
      obtain ⟨_, _, G0⟩ := Xg.Fr.put (u := .int .i64 (K0 : Int)) F0 HG hty C0 (Xg.ns_int _ _) (Xg.ns_int _ _)
      have t1 : True := trivial
      have t2 : True := trivial
      have t3 : True := trivial
      have t4 : True := trivial
      have t5 : True := trivial
      go_wp2_with (first
        | (go_at_call 66; clear t1; clear p0 f0; refine (Mt.text_any K1 (by omega) (by omega) _).mono ?_; rintro e w1 ⟨rfl, hb⟩; have F1 := G0.next hb; clear hb; obtain ⟨⟨x1, p1⟩, f1, _⟩ := Xg.Fr.put (u := .string (Mt.mt K1)) F1 HG hty C1 (Xg.ns_str _) (Xg.ns_str _); obtain ⟨_, _, G1⟩ := Xg.Fr.put (u := .string (Mt.mt K1)) F1 HG hty C1 (Xg.ns_str _) (Xg.ns_str _); have p2 := Xg.Fr.slice F1 hty C2)
        | (go_at_call 67; clear t2; clear p1 f1; clear p2; refine (HTM.out _ K2 (by omega) (by omega) G1).mono ?_; rintro e w2 ⟨rfl, F2⟩; rw [eT]; obtain ⟨⟨x3, p3⟩, f3, _⟩ := Xg.Fr.put (u := .int .i64 (K3 : Int)) F2 HG hty C3 (Xg.ns_int _ _) (Xg.ns_int _ _); obtain ⟨_, _, G3⟩ := Xg.Fr.put (u := .int .i64 (K3 : Int)) F2 HG hty C3 (Xg.ns_int _ _) (Xg.ns_int _ _))
        | (go_at_call 66; clear t3; clear p3 f3; refine (Mt.text_any K4 (by omega) (by omega) _).mono ?_; rintro e w3 ⟨rfl, hb⟩; have F3 := G3.next hb; clear hb; obtain ⟨⟨x4, p4⟩, f4, _⟩ := Xg.Fr.put (u := .string (Mt.mt K4)) F3 HG hty C4 (Xg.ns_str _) (Xg.ns_str _); obtain ⟨_, _, G4⟩ := Xg.Fr.put (u := .string (Mt.mt K4)) F3 HG hty C4 (Xg.ns_str _) (Xg.ns_str _); obtain ⟨⟨x5, p5⟩, f5, _⟩ := Xg.Fr.put (u := .int .i64 (K5 : Int)) F3 HG hty C5 (Xg.ns_int _ _) (Xg.ns_int _ _); obtain ⟨_, _, G5⟩ := Xg.Fr.put (u := .int .i64 (K5 : Int)) G4 HG hty C5 (Xg.ns_int _ _) (Xg.ns_int _ _))
        | (go_at_call 66; clear t4; clear p4 f4 p5 f5; refine (Mt.text_any K6 (by omega) (by omega) _).mono ?_; rintro e w4 ⟨rfl, hb⟩; have F4 := G5.next hb; clear hb; obtain ⟨⟨x6, p6⟩, f6, _⟩ := Xg.Fr.put (u := .string (Mt.mt K6)) F4 HG hty C6 (Xg.ns_str _) (Xg.ns_str _); obtain ⟨_, _, G6⟩ := Xg.Fr.put (u := .string (Mt.mt K6)) F4 HG hty C6 (Xg.ns_str _) (Xg.ns_str _))
        | (go_at_call 66; clear t5; clear p6 f6; refine (Mt.text_any K7 (by omega) (by omega) _).mono ?_; rintro e w5 ⟨rfl, hb⟩; have F5 := G6.next hb; clear hb; obtain ⟨⟨x7, p7⟩, f7, _⟩ := Xg.Fr.put (u := .string (Mt.mt K7)) F5 HG hty C7 (Xg.ns_str _) (Xg.ns_str _); obtain ⟨_, _, G7⟩ := Xg.Fr.put (u := .string (Mt.mt K7)) F5 HG hty C7 (Xg.ns_str _) (Xg.ns_str _); obtain ⟨⟨x8, p8⟩, f8, _⟩ := Xg.Fr.put (u := .int .i64 (K8 : Int)) F5 HG hty C8 (Xg.ns_int _ _) (Xg.ns_int _ _); obtain ⟨_, _, G8⟩ := Xg.Fr.put (u := .int .i64 (K8 : Int)) G7 HG hty C8 (Xg.ns_int _ _) (Xg.ns_int _ _))
        | (go_at_call 66; clear p7 f7 p8 f8; refine (Mt.text_any K9 (by omega) (by omega) _).mono ?_; rintro e w6 ⟨rfl, hb⟩; have F6 := G8.next hb; clear hb; obtain ⟨⟨x9, p9⟩, f9, _⟩ := Xg.Fr.put (u := .string (Mt.mt K9)) F6 HG hty C9 (Xg.ns_str _) (Xg.ns_str _); obtain ⟨_, _, G9⟩ := Xg.Fr.put (u := .string (Mt.mt K9)) F6 HG hty C9 (Xg.ns_str _) (Xg.ns_str _)))
      go_roundw
      case rel => exact ⟨k + 1, K10, by omega, by have := HK0.out; have := HK1.out; have := HK2.out; have := HK3.out; have := HK4.out; have := HK5.out; have := HK6.out; have := HK7.out; have := HK8.out; have := HK9.out; have := HK10.out; rw [HC2.out]; omega, rfl, by go_num, G9⟩
      case measure => simp [intOf]; omega
    · have he : k = n := by omega
      subst he
      have HF : Hid (K0 = k0 + cntL Q k) := hK
      clear hK
      go_wp2
      go_ret
      exact ⟨by rw [HF.out]; rfl, F0⟩

end Go.Proofs.YtljlgjgfmgilaaaGreat.Xh

namespace Go.Proofs.YtljlgjgfmgilaaaGreat.Xk
set_option maxRecDepth 8000
set_option linter.unusedSimpArgs false
set_option linter.unusedVariables false
open Go Go.ChangeShapes Go.WideShapes Go.RowKit
open Num Pl
open Pm (Tm tm0 Lm lm0 Rm rm0 Dc dc0 Pg Atm kdTm kdLm kdRm kdDc Rd Sl told wtS tot)
open Xg (Fr)
open Xh (markTms_any markLms_any cntL cntL_le)

set_option maxHeartbeats 4000000 in
theorem markDcs_any (lo hi : Nat) (wc w0 : World) (s : Sl Dc) (h : Rd kdDc lo wc s) (hb : Below wc.heap.size wc w0) (hlo : lo ≠ 0) (hhi : wc.heap.size ≤ hi) (hl : s.Q.length ≤ 1048576) (k0 : Nat) (hk0 : 0 < k0) (hkb : k0 + 3 * s.Q.length ≤ 100000000) (w : World) (F : Fr lo hi w0 w) :
    Calls Tryz.prog 32 #[.slice s.a s.Q.length s.c, .int .i64 k0] w fun e w' => e = .returned (.int .i64 ((k0 + 3 * s.Q.length : Nat) : Int)) ∧ Fr lo hi w0 w' := by
  obtain ⟨a, b, o, c, Q⟩ := s
  simp only at hl hkb ⊢
  obtain ⟨n, hn0⟩ : ∃ n, n = Q.length := ⟨_, rfl⟩
  rw [← hn0] at hl hkb ⊢
  have HN : Hid (n = Q.length) := hn0
  have H : Hid (Rd kdDc lo w0 ⟨a, b, o, c, Q⟩) := h.below hb
  have HW : Hid (Rd kdDc lo wc ⟨a, b, o, c, Q⟩) := h
  have HE : Hid (∀ K i, K = k0 + 3 * i → i = n → K = k0 + 3 * n) := fun K i h1 h2 => by rw [h1, h2]
  have HKB : Hid (k0 + 3 * n ≤ 100000000) := hkb
  have HHI : Hid (wc.heap.size ≤ hi) := hhi
  clear hn0 h hb hkb hhi
  go_enter Tryz.func32, Tryz.ntmps32
  go_wp2
  go_loopw [1, 5] (fun q i wr => ∃ k K0 : Nat, k ≤ n ∧ K0 = k0 + 3 * k ∧ q = .int .i64 K0 ∧ i = .int .i64 k ∧ Fr lo hi w0 wr) (fun _ i _ => n - (intOf i).toNat)
  case atStart => exact ⟨0, k0, Nat.zero_le _, rfl, rfl, rfl, F⟩
  case round =>
    obtain ⟨k, K0, hk, hK, rfl, rfl, F0⟩ := hrel
    have HK0 : Hid (K0 = k0 + 3 * k) := hK
    by_cases hlt : k < n
    · have hkz : (k : Int) < (n : Int) := by omega
      have hp : 0 < K0 := by omega
      have b0 : K0 ≤ 100000000 := by have := HKB.out; omega
      clear hK F
      have hQ : k < Q.length := by have := HN.out; omega
      obtain ⟨C0, C1, C2⟩ := Pm.cellsDc H.out hQ
      have hh := H.out.head (by simp only; omega)
      have hg1 := H.out.blk (by simp only; omega)
      have hg2 := HW.out.lt hQ
      obtain ⟨cs, hty⟩ := H.out.ty hlo (by simp only; omega)
      simp only at C0 C1 C2 hh hg1 hg2 hty
      obtain rfl := hh
      have HG : lo ≤ b ∧ b < hi := ⟨hg1, by have := HHI.out; omega⟩
      clear H HW hg1 hg2
      generalize Q.getD k dc0 = y at C0 C1 C2
      obtain ⟨K1, hK1⟩ : ∃ K, K = K0 + 1 := ⟨_, rfl⟩
      have e1 : (K0 : Int) + 1 = (K1 : Int) := by omega
      have HK1 : Hid (K1 = K0 + 1) := hK1
      have b1 : K1 ≤ 200000000 := by omega
      clear hK1
      obtain ⟨K2, hK2⟩ : ∃ K, K = K1 + 1 := ⟨_, rfl⟩
      have e2 : (K1 : Int) + 1 = (K2 : Int) := by omega
      have HK2 : Hid (K2 = K1 + 1) := hK2
      have b2 : K2 ≤ 200000000 := by omega
      clear hK2
      obtain ⟨K3, hK3⟩ : ∃ K, K = K2 + 1 := ⟨_, rfl⟩
      have e3 : (K2 : Int) + 1 = (K3 : Int) := by omega
      have HK3 : Hid (K3 = K2 + 1) := hK3
      have b3 : K3 ≤ 200000000 := by omega
      clear hK3
      obtain ⟨⟨x0, p0⟩, f0, _⟩ := Xg.Fr.put (u := .int .i64 (K0 : Int)) F0 HG hty C0 (Xg.ns_int _ _) (Xg.ns_int _ _)
      obtain ⟨_, _, G0⟩ := Xg.Fr.put (u := .int .i64 (K0 : Int)) F0 HG hty C0 (Xg.ns_int _ _) (Xg.ns_int _ _)
      go_wp2_with (go_at_call 66; clear p0 f0; refine (Mt.text_any K1 (by omega) (by omega) _).mono ?_; rintro e w1 ⟨rfl, hb⟩; have F1 := G0.next hb; clear hb; obtain ⟨⟨x1, p1⟩, f1, _⟩ := Xg.Fr.put (u := .string (Mt.mt K1)) F1 HG hty C1 (Xg.ns_str _) (Xg.ns_str _); obtain ⟨_, _, G1⟩ := Xg.Fr.put (u := .string (Mt.mt K1)) F1 HG hty C1 (Xg.ns_str _) (Xg.ns_str _); obtain ⟨⟨x2, p2⟩, f2, _⟩ := Xg.Fr.put (u := .int .i64 (K2 : Int)) F1 HG hty C2 (Xg.ns_int _ _) (Xg.ns_int _ _); obtain ⟨_, _, G2⟩ := Xg.Fr.put (u := .int .i64 (K2 : Int)) G1 HG hty C2 (Xg.ns_int _ _) (Xg.ns_int _ _))
      go_roundw
      case rel => exact ⟨k + 1, K3, by omega, by have := HK0.out; have := HK1.out; have := HK2.out; have := HK3.out; omega, rfl, by go_num, G2⟩
      case measure => simp [intOf]; omega
    · have he : k = n := by omega
      have HF : Hid (K0 = k0 + 3 * n) := HE.out _ _ hK he
      subst he
      clear hK
      go_wp2
      go_ret
      exact ⟨by rw [HF.out]; rfl, F0⟩

set_option maxHeartbeats 8000000 in
theorem markRms_any (lo hi : Nat) (wc w0 : World) (s : Sl Rm) (h : Rd kdRm lo wc s) (hb : Below wc.heap.size wc w0) (hlo : lo ≠ 0) (hhi : wc.heap.size ≤ hi) (hl : wtS kdRm s.Q ≤ 1048576) (k0 : Nat) (hk0 : 0 < k0) (hkb : k0 + 9 * wtS kdRm s.Q ≤ 9999990) (w : World) (F : Fr lo hi w0 w) :
    Calls Tryz.prog 33 #[.slice s.a s.Q.length s.c, .int .i64 k0] w fun e w' => (∃ K : Nat, e = .returned (.int .i64 K)) ∧ Fr lo hi w0 w' := by
  obtain ⟨a, b, o, c, Q⟩ := s
  have hwt := fun i (hi : i < Q.length) => Pm.wt_at (K := kdRm) hi
  have htm := fun i (hi : i < Q.length) => Pm.tot_mono (K := kdRm) Q (i := i + 1) (j := Q.length) (by omega)
  unfold wtS at hl hkb hwt
  simp only at hl hkb ⊢
  obtain ⟨n, hn0⟩ : ∃ n, n = Q.length := ⟨_, rfl⟩
  rw [← hn0] at hl hkb hwt htm ⊢
  have HN : Hid (n = Q.length) := hn0
  have H : Hid (Rd kdRm lo w0 ⟨a, b, o, c, Q⟩) := h.below hb
  have HW : Hid (Rd kdRm lo wc ⟨a, b, o, c, Q⟩) := h
  have HBW : Hid (Below wc.heap.size wc w0) := hb
  have HKB : Hid (k0 + 9 * (n + tot kdRm Q n) ≤ 9999990) := hkb
  have HTM : Hid (∀ i, i < n → tot kdRm Q (i + 1) ≤ tot kdRm Q n) := htm
  have HL : Hid (n + tot kdRm Q n ≤ 1048576) := hl
  have HHI : Hid (wc.heap.size ≤ hi) := hhi
  have hn : n ≤ 1048576 := by omega
  clear hn0 h hb hkb hhi hl hwt htm
  go_enter Tryz.func33, Tryz.ntmps33
  go_wp2
  go_loopw [1, 5] (fun q i wr => ∃ k K0 : Nat, k ≤ n ∧ 0 < K0 ∧ K0 ≤ k0 + 9 * (k + tot kdRm Q k) ∧ q = .int .i64 K0 ∧ i = .int .i64 k ∧ Fr lo hi w0 wr) (fun _ i _ => n - (intOf i).toNat)
  case atStart => exact ⟨0, k0, Nat.zero_le _, hk0, by omega, rfl, rfl, F⟩
  case round =>
    obtain ⟨k, K0, hk, hp, hK, rfl, rfl, F0⟩ := hrel
    have HK0 : Hid (K0 ≤ k0 + 9 * (k + tot kdRm Q k)) := hK
    by_cases hlt : k < n
    · have hkz : (k : Int) < (n : Int) := by omega
      have hQ : k < Q.length := by have := HN.out; omega
      have hT1 := HTM.out k hlt
      have hT2 : tot kdRm Q (k + 1) = tot kdRm Q k + kdRm.wt (Q.getD k kdRm.z) := rfl
      have hT3 : kdRm.wt (Q.getD k kdRm.z) = (Q.getD k rm0).wt := rfl
      obtain ⟨C0, C1, C2, C3⟩ := Pm.cellsRm H.out hQ
      have hh := H.out.head (by simp only; omega)
      have hg1 := H.out.blk (by simp only; omega)
      have hg2 := HW.out.lt hQ
      have hok : (Q.getD k rm0).Ok lo wc := HW.out.ok k hQ
      obtain ⟨cs, hty⟩ := H.out.ty hlo (by simp only; omega)
      simp only at C0 C1 C2 C3 hh hg1 hg2 hty
      obtain rfl := hh
      have HG : lo ≤ b ∧ b < hi := ⟨hg1, by have := HHI.out; omega⟩
      rw [hT3] at hT2
      generalize Q.getD k rm0 = y at C0 C1 C2 C3 hok hT2
      have hA : y.h.A.Q.length + wtS kdLm y.B.Q ≤ y.wt := by unfold Rm.wt Atm.wt wtS; omega
      have hcl := cntL_le y.B.Q y.B.Q.length
      have hwb : y.B.Q.length + tot kdLm y.B.Q y.B.Q.length = wtS kdLm y.B.Q := rfl
      have hkb := HKB.out
      have hll := HL.out
      have hbb : wtS kdLm y.B.Q ≤ 1048576 := by omega
      have hsum : K0 + (2 + 3 * y.h.A.Q.length + cntL y.B.Q y.B.Q.length) ≤ k0 + 9 * (k + 1 + tot kdRm Q (k + 1)) := by omega
      have HSUM : Hid (K0 + (2 + 3 * y.h.A.Q.length + cntL y.B.Q y.B.Q.length) ≤ k0 + 9 * (k + 1 + tot kdRm Q (k + 1))) := hsum
      have hmax : K0 + (2 + 3 * y.h.A.Q.length + cntL y.B.Q y.B.Q.length) ≤ 9999990 := by omega
      have hAl : y.h.A.Q.length ≤ 1048576 := by omega
      have HTS : Hid (∀ (w : World) (K : Nat), 0 < K → K + 3 * y.h.A.Q.length ≤ 100000000 → Fr lo hi w0 w → Calls Tryz.prog 67 #[.slice y.h.A.a y.h.A.Q.length y.h.A.c, .int .i64 K] w fun e w' => e = .returned (.int .i64 ((K + 3 * y.h.A.Q.length : Nat) : Int)) ∧ Fr lo hi w0 w') := fun w K h1 h2 F => markTms_any lo hi wc w0 y.h.A hok.1.2 HBW.out hlo HHI.out hAl K h1 h2 w F
      have HLS : Hid (∀ (w : World) (K : Nat), 0 < K → K ≤ 10000000 → Fr lo hi w0 w → Calls Tryz.prog 68 #[.slice y.B.a y.B.Q.length y.B.c, .int .i64 K] w fun e w' => e = .returned (.int .i64 ((K + cntL y.B.Q y.B.Q.length : Nat) : Int)) ∧ Fr lo hi w0 w') := fun w K h1 h2 F => markLms_any lo hi wc w0 y.B hok.2 HBW.out hlo HHI.out hbb K h1 h2 w F
      clear hok H HW hg1 hg2 hT1 hT2 hT3 hA hcl hwb hkb hll hbb hsum hK F hAl
      generalize cntL y.B.Q y.B.Q.length = cb at HLS HSUM hmax
      obtain ⟨K1, hK1⟩ : ∃ K, K = K0 + 1 := ⟨_, rfl⟩
      have e1 : (K0 : Int) + 1 = (K1 : Int) := by omega
      have HK1 : Hid (K1 = K0 + 1) := hK1
      have b1 : K1 ≤ 200000000 := by omega
      clear hK1
      obtain ⟨K2, hK2⟩ : ∃ K, K = K1 + 1 := ⟨_, rfl⟩
      have e2 : (K1 : Int) + 1 = (K2 : Int) := by omega
      have HK2 : Hid (K2 = K1 + 1) := hK2
      have b2 : K2 ≤ 200000000 := by omega
      clear hK2
      obtain ⟨K3, hK3⟩ : ∃ K, K = K2 + 3 * y.h.A.Q.length := ⟨_, rfl⟩
      have e3 : ((K2 + 3 * y.h.A.Q.length : Nat) : Int) = (K3 : Int) := by rw [hK3]
      have HK3 : Hid (K3 = K2 + 3 * y.h.A.Q.length) := hK3
      have b3 : K3 ≤ 200000000 := by omega
      clear hK3
      obtain ⟨K4, hK4⟩ : ∃ K, K = K3 + cb := ⟨_, rfl⟩
      have e4 : ((K3 + cb : Nat) : Int) = (K4 : Int) := by rw [hK4]
      have HK4 : Hid (K4 = K3 + cb) := hK4
      have b4 : K4 ≤ 200000000 := by omega
      clear hK4
      obtain ⟨⟨x0, p0⟩, f0, _⟩ := Xg.Fr.put (u := .int .i64 (K0 : Int)) F0 HG hty C0 (Xg.ns_int _ _) (Xg.ns_int _ _)
      obtain ⟨_, _, G0⟩ := Xg.Fr.put (u := .int .i64 (K0 : Int)) F0 HG hty C0 (Xg.ns_int _ _) (Xg.ns_int _ _)
      go_wp2_with (first
        | (go_at_call 66; clear p0 f0; refine (Mt.text_any K1 (by omega) (by omega) _).mono ?_; rintro e w1 ⟨rfl, hb⟩; have F1 := G0.next hb; clear hb; obtain ⟨⟨x1, p1⟩, f1, _⟩ := Xg.Fr.put (u := .string (Mt.mt K1)) F1 HG hty C1 (Xg.ns_str _) (Xg.ns_str _); obtain ⟨_, _, G1⟩ := Xg.Fr.put (u := .string (Mt.mt K1)) F1 HG hty C1 (Xg.ns_str _) (Xg.ns_str _); have p2 := Xg.Fr.slice F1 hty C2)
        | (go_at_call 67; clear p1 f1 p2; refine (HTS.out _ K2 (by omega) (by omega) G1).mono ?_; rintro e w2 ⟨rfl, F2⟩; rw [e3]; have p3 := Xg.Fr.slice F2 hty C3)
        | (go_at_call 68; clear p3; refine (HLS.out _ K3 (by omega) (by omega) F2).mono ?_; rintro e w3 ⟨rfl, F3⟩; rw [e4]))
      go_roundw
      case rel => exact ⟨k + 1, K4, by omega, by omega, by have := HSUM.out; have := HK1.out; have := HK2.out; have := HK3.out; have := HK4.out; omega, rfl, by go_num, F3⟩
      case measure => simp [intOf]; omega
    · have he : k = n := by omega
      subst he
      clear hK
      go_wp2
      go_ret
      exact ⟨⟨K0, rfl⟩, F0⟩

set_option maxHeartbeats 1000000 in
theorem markPg_any (lo hi : Nat) (wc w : World) (x : Pg) (h : x.Ok lo wc) (hb : Below wc.heap.size wc w) (hlo : lo ≠ 0) (hhi : wc.heap.size ≤ hi) (hl : x.wt ≤ 1048576) (hw : hi ≤ w.heap.size) :
    Calls Tryz.prog 13 #[.agg #[.slice x.D.a x.D.Q.length x.D.c, .slice x.R.a x.R.Q.length x.R.c], .int .i64 1] w fun e w' => ∃ K : Nat, e = .returned (.int .i64 K) ∧ Fr lo hi w w' := by
  have hx : x.wt = wtS kdDc x.D.Q + wtS kdRm x.R.Q := rfl
  have hdl : x.D.Q.length ≤ wtS kdDc x.D.Q := by unfold wtS; omega
  obtain ⟨W1, hW1⟩ : ∃ W1, W1 = w.alloc (.cells #[.slice x.D.a x.D.Q.length x.D.c, .slice x.R.a x.R.Q.length x.R.c] 32) := ⟨_, rfl⟩
  have b1 : Below w.heap.size w W1 := by subst hW1; exact below_alloc1 _ _
  have F0 : Fr lo hi w W1 := (Fr.refl lo hi w).next b1
  have k0 : W1.heap[w.heap.size]? = some (.cells #[.slice x.D.a x.D.Q.length x.D.c, .slice x.R.a x.R.Q.length x.R.c] 32 (0, 0)) := by subst hW1; exact at_new rfl
  have hb1 := Rw.next hb b1
  have hC := markDcs_any lo hi wc W1 x.D h.1 hb1 hlo hhi (by omega) 1 (by decide) (by omega) W1 (Fr.refl _ _ _)
  obtain ⟨K1, hK1⟩ : ∃ K1, K1 = 1 + 3 * x.D.Q.length := ⟨_, rfl⟩
  rw [← hK1] at hC
  have hD := fun W (F : Fr lo hi W1 W) => markRms_any lo hi wc W1 x.R h.2 hb1 hlo hhi (by omega) K1 (by omega) (by omega) W F
  have l1 := blk_lt k0
  clear hK1 h hb hb1 b1 hx hdl hl
  obtain ⟨p0, p1⟩ := Pl.two k0
  go_enter Tryz.func13, Tryz.ntmps13
  rw [hW1] at p0 p1
  go_wp2_with (first
    | (go_at_call 32; clear p0 p1; rw [← hW1]; clear hW1; refine hC.mono ?_; rintro e w1 ⟨rfl, F1⟩; have k1 := (F1.out _ l1 (by omega)).trans k0; obtain ⟨p0, p1⟩ := Pl.two k1)
    | (go_at_call 33; clear p0 p1; refine (hD _ F1).mono ?_; rintro e w2 ⟨⟨K2, rfl⟩, F2⟩))
  go_ret
  exact ⟨K2, rfl, F0.trans F2⟩

end Go.Proofs.YtljlgjgfmgilaaaGreat.Xk


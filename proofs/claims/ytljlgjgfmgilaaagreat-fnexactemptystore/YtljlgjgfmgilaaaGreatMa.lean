/-
  Marks written into rows of values and into relations, and read again.
-/
import Derived.Test.YtljlgjgfmgilaaaGreatRf
namespace Go.Proofs.YtljlgjgfmgilaaaGreat.Rl
set_option maxRecDepth 8000
set_option linter.unusedSimpArgs false
set_option linter.unusedVariables false
open Go Go.RowKit
open Num Word Pl Rp

def dgt (d : Nat) : UInt8 := UInt8.ofNat (48 + d)
theorem one_byte (W : World) (b d : Nat) (hd : d < 10) (h : W.cell? ⟨b, 0, none⟩ = some (.int .u8 (48 + (d : Int)))) :
    (convert 134 9 (.slice (some ⟨b, 0, none⟩) 1 1)).run Tryz.prog W = .ok (.string ⟨#[dgt d]⟩) W := by
  have e : (((dgt d).toNat : Nat) : Int) = 48 + (d : Int) := by unfold dgt; simp only [UInt8.toNat_ofNat']; omega
  have := run_convert_bytes_back (P := Tryz.prog) W 134 9 5 ⟨b, 0, none⟩ 1 [dgt d] Tryz.underlying134 Tryz.underlying5 Tryz.underlying9 (fun j hj => by
    have : j = 0 := by simpa using hj
    subst this
    rw [show ([dgt d][0]'hj) = dgt d from rfl, e]
    simpa [Addr.add] using h)
  simpa using this
/-- The digits of k ahead of what is there; f: no more steps than that. -/
def mtF : Nat → Nat → ByteArray → ByteArray
  | 0, _, s => s
  | f + 1, k, s => if k = 0 then s else mtF f (k / 10) (⟨#[dgt (k % 10)]⟩ ++ s)
theorem mtF_more : ∀ (f k : Nat) (s : ByteArray), k ≤ f → mtF (f + 1) k s = mtF f k s
  | 0, k, s, h => by have : k = 0 := by omega
                     subst this; rfl
  | f + 1, k, s, h => by
    show (if k = 0 then s else mtF (f + 1) (k / 10) (⟨#[dgt (k % 10)]⟩ ++ s)) = (if k = 0 then s else mtF f (k / 10) (⟨#[dgt (k % 10)]⟩ ++ s))
    by_cases e : k = 0
    · rw [if_pos e, if_pos e]
    · rw [if_neg e, if_neg e]
      exact mtF_more f (k / 10) _ (by omega)
def mtG (k : Nat) (s : ByteArray) : ByteArray := mtF k k s
theorem mtF_eq : ∀ (f k : Nat) (s : ByteArray), k ≤ f → mtF f k s = mtG k s := by
  intro f
  induction f with
  | zero => intro k s h; have : k = 0 := by omega
            subst this; rfl
  | succ f ih =>
    intro k s h
    by_cases e : k = f + 1
    · subst e; rfl
    · rw [mtF_more f k s (by omega)]; exact ih k s (by omega)
theorem mtG_step {k : Nat} (h : 0 < k) (s : ByteArray) : mtG k s = mtG (k / 10) (⟨#[dgt (k % 10)]⟩ ++ s) := by
  obtain ⟨f, rfl⟩ : ∃ f, k = f + 1 := ⟨k - 1, by omega⟩
  unfold mtG
  rw [mtF, if_neg (by omega)]
  exact mtF_eq f _ _ (by omega)
theorem mtG_zero (s : ByteArray) : mtG 0 s = s := rfl
/-- The text of a mark. -/
def mt (k : Nat) : ByteArray := ⟨#[109]⟩ ++ mtG k ⟨#[]⟩

set_option maxHeartbeats 1000000 in
theorem text_any (k0 : Nat) (h0 : 0 < k0) (h1 : k0 ≤ 1000000000000) (w : World) :
    Calls Tryz.prog 66 #[.int .i64 k0] w fun e w' => e = .returned (.string (mt k0)) ∧ Below w.heap.size w w' := by
  have hk : ¬ (k0 : Int) ≤ 0 := by omega
  unfold mt
  obtain ⟨R, hR⟩ : ∃ R, R = mtG k0 ⟨#[]⟩ := ⟨_, rfl⟩
  rw [← hR]
  have H0 : Hid (mtG k0 ⟨#[]⟩ = R) := hR.symm
  clear hR
  go_enter Tryz.func66, Tryz.ntmps66
  go_wp2
  go_loopw [0, 3] (fun a b wr => ∃ (k : Nat) (s : ByteArray), k ≤ k0 ∧ a = .int .i64 k ∧ b = .string s ∧ Below w.heap.size w wr ∧ mtG k s = R ∧ s.size + k ≤ k0) (fun a _ _ => (intOf a).toNat)
  case atStart => exact ⟨k0, _, Nat.le_refl _, rfl, rfl, Below.refl _ _, H0.out, by show 0 + k0 ≤ k0; omega⟩
  case round =>
    obtain ⟨k, s, hk, rfl, rfl, hbel, hm, hsz⟩ := hrel
    have HSz : Hid (s.size + k ≤ k0) := hsz
    have hs1 : s.size ≤ 1000000000000 := by omega
    clear hsz
    by_cases hp : 0 < k
    · have hpz : (0 : Int) < (k : Int) := by omega
      have HM : Hid (mtG (k / 10) (⟨#[dgt (k % 10)]⟩ ++ s) = R) := (mtG_step hp s).symm.trans hm
      clear hm
      obtain ⟨d, hd⟩ : ∃ d, d = k % 10 := ⟨_, rfl⟩
      obtain ⟨q, hq⟩ : ∃ q, q = k / 10 := ⟨_, rfl⟩
      rw [← hd, ← hq] at HM
      have hq2 : q < k := by omega
      have e1 : Int.tmod (k : Int) 10 = (d : Int) := by rw [hd]; simp [Int.tmod]
      have e2 : Int.tdiv (k : Int) 10 = (q : Int) := by rw [hq]; rfl
      have hd9 : d < 10 := by omega
      clear hd hq
      have hB := below_alloc1 wr (.cells #[.int .u8 (48 + (d : Int))] 5)
      have hcv := one_byte (wr.alloc (.cells #[.int .u8 (48 + (d : Int))] 5)) wr.heap.size d hd9 (one (at_new rfl))
      go_wp2
      go_roundw
      case rel => exact ⟨q, _, by omega, rfl, rfl, Rw.next hbel hB, HM.out, by have := HSz.out; rw [ByteArray.size_append]; show 1 + s.size + q ≤ k0; omega⟩
      case measure => simp [intOf]; omega
    · have e : k = 0 := by omega
      subst e
      rw [mtG_zero] at hm
      have HM : Hid (s = R) := hm
      clear hm
      go_wp2
      go_ret
      exact ⟨by rw [← HM.out]; rfl, hbel⟩

end Go.Proofs.YtljlgjgfmgilaaaGreat.Rl

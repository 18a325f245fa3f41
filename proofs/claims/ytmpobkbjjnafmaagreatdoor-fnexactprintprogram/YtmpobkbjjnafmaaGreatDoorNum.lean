/-
  Contracts of the two NumText: what they answer, on every integer.
-/
import Derived.Test.YtmpobkbjjnafmaaGreatDoorRows
import Derived.Test.YtmpobkbjjnafmaaGreatDoorShelfa
import Derived.WalkKit
import Derived.ProofKit
import Derived.WalkLawsBesides
import Derived.Deep.RegionLaw
import Derived.Laws.IdiomStrings
import Derived.Lib.ItoaNum
import Derived.WalkSmall
namespace Go.Proofs.YtmpobkbjjnafmaaGreatDoor.Num
set_option maxRecDepth 8000
open Go Go.RowKit

theorem ret_bool {a b : Bool} (h : a = b) : Ending.returned (.bool a) = .returned (.bool b) := by rw [h]
theorem ret_str {a b : ByteArray} (h : a = b) : Ending.returned (.string a) = .returned (.string b) := by rw [h]

/-- A call of a function by its contract, in a region that draws its order. -/
theorem step_call {P : Program} {ops : Array Oper} {o : Oper} {a : Act} {w : World} {K : Act → World → Prop} {Q : Exit → Act → World → Prop} {E : Prop} {S : World → Prop}
    (hg : o.guard = none) (f : FuncId) (x : Operand) (t : TypeId) (hop : o.op = Op.call { callee := Callee.value (Operand.func f), args := #[x], argTypes := #[t] })
    (u v : Value) (hx : a.eval x = u) (he : ∀ w, (callFunc f #[u]).run P w = .ok (.enter f #[u]) w) (hc : Calls P f #[u] w fun e w' => e = .returned v ∧ S w')
    (hK : ∀ w', S w' → K (a.put o.dst v) w') :
    if Region.wanted o (yielded ops a.tmps) = true then Oper.wp P o a w K Q else E := by
  have hw : Region.wanted o (yielded ops a.tmps) = true := by simp [Region.wanted, hg]
  rw [if_pos hw]
  unfold Oper.wp
  have hf : a.eval (.func f) = .func (.func f) #[] #[] := rfl
  simp [execOp, hop, resolve, invoke, hx, hf, Deferred.ofValue, he w]
  refine hc.mono ?_
  rintro e w' ⟨rfl, hs⟩
  exact hK w' hs

def numB (n : Int) : Bool := decide (0 ≤ n ∧ n ≤ 281474976710655)
theorem l01Num_any (n : Int) (w : World) :
    Calls Tryz.prog 25 #[.int .i64 n] w fun e w' => e = .returned (.bool (numB n)) ∧ w' = w := by
  unfold numB
  by_cases h1 : 0 ≤ n
  · by_cases h2 : n ≤ 281474976710655
    all_goals
      go_enter Tryz.func25, Tryz.ntmps25
      go_wp2
      go_ret
      exact ⟨ret_bool (by simp <;> omega), rfl⟩
  · go_enter Tryz.func25, Tryz.ntmps25
    go_wp2
    go_ret
    exact ⟨ret_bool (by simp <;> omega), rfl⟩

/-- A decimal digit, as a byte; the decimal text of a number. -/
def dgt (d : Nat) : UInt8 := UInt8.ofNat (48 + d)
def txt (n : Nat) : ByteArray := ⟨(Lib.decDigits n).toArray⟩
theorem txt_small (n : Nat) (h : n < 10) : txt n = ⟨#[dgt n]⟩ := by
  unfold txt; rw [Lib.decDigits, dif_pos h]; rfl
theorem txt_big (n : Nat) (h : ¬ n < 10) : txt n = txt (n / 10) ++ ⟨#[dgt (n % 10)]⟩ := by
  unfold txt dgt
  rw [Lib.decDigits, dif_neg h]
  apply ByteArray.ext
  simp
theorem txt_size (n : Nat) : (txt n).size = Lib.nDigits n := by
  induction n using Nat.strongRecOn with
  | ind n ih =>
    by_cases h : n < 10
    · rw [txt_small n h, Lib.nDigits_small h]; rfl
    · rw [txt_big n h, Lib.nDigits_big h, ← ih (n / 10) (by omega)]
      simp [ByteArray.size_append]
      rfl
theorem digits_le : ∀ k n, n < 10 ^ (k + 1) → Lib.nDigits n ≤ k + 1
  | 0, n, h => by rw [Lib.nDigits_small (by simpa using h)]; omega
  | k + 1, n, h => by
    by_cases h10 : n < 10
    · rw [Lib.nDigits_small h10]; omega
    · rw [Lib.nDigits_big h10]
      have := digits_le k (n / 10) (by rw [Nat.pow_succ] at h; omega)
      omega
theorem txt_le (n : Nat) (h : n ≤ 281474976710655) : (txt n).size ≤ 15 := by
  rw [txt_size]; exact digits_le 14 n (by omega)

theorem one_byte (W : World) (b d : Nat) (hd : d < 10) (h : W.cell? ⟨b, 0, none⟩ = some (.int .u8 (48 + (d : Int)))) :
    (convert 68 9 (.slice (some ⟨b, 0, none⟩) 1 1)).run Tryz.prog W = .ok (.string ⟨#[dgt d]⟩) W := by
  have e : (((dgt d).toNat : Nat) : Int) = 48 + (d : Int) := by unfold dgt; simp only [UInt8.toNat_ofNat']; omega
  have := run_convert_bytes_back (P := Tryz.prog) W 68 9 5 ⟨b, 0, none⟩ 1 [dgt d] Tryz.underlying68 Tryz.underlying5 Tryz.underlying9 (fun j hj => by
    have : j = 0 := by simpa using hj
    subst this
    rw [show ([dgt d][0]'hj) = dgt d from rfl, e]
    simpa [Addr.add] using h)
  simpa using this

theorem bcell {W w1 : World} (hb : Below W.heap.size W w1) : ∀ b o, b < W.heap.size → w1.cell? ⟨b, o, none⟩ = W.cell? ⟨b, o, none⟩ :=
  fun b o h => hb.cell (p := ⟨b, o, none⟩) h

theorem enter5 (u : Value) (w : World) : (callFunc 12 #[u]).run Tryz.prog w = .ok (.enter 12 #[u]) w := by kernel_rfl
theorem wraps_i64 (n : Int) (h₀ : 0 ≤ n) (h₁ : n < 2 ^ 63) : IntKind.i64.wrap n = n := by rw [IntKind.wrap_i64]; omega
theorem wraps_u8 (n : Int) (h₀ : 0 ≤ n) (h₁ : n < 256) : IntKind.u8.wrap n = n := by rw [IntKind.wrap_u8]; omega

set_option maxHeartbeats 1000000 in
theorem specText_any : ∀ (n : Nat), n ≤ 281474976710655 → ∀ w : World,
    Calls Tryz.prog 12 #[.int .i64 (n : Int)] w fun e w' => e = .returned (.string (txt n)) ∧ Below w.heap.size w w' := by
  intro n
  induction n using Nat.strongRecOn with
  | ind n ih =>
    intro hn w
    have hnb : numB (n : Int) = true := by unfold numB; simp; omega
    by_cases h10 : n < 10
    · have hz : (n : Int) < 10 := by omega
      have HT : Hid (txt n = ⟨#[dgt n]⟩) := txt_small n h10
      have hcv := one_byte (w.alloc (.cells #[.int .u8 (48 + (n : Int))] 5)) w.heap.size n h10 (by simp)
      clear ih
      go_enter Tryz.func12, Tryz.ntmps12
      go_wp2_with (go_at_call 25; refine (l01Num_any _ _).mono ?_; rw [hnb]; rintro e w' ⟨rfl, hw'⟩; replace hw' := hw'.symm; subst hw')
      go_ret
      exact ⟨ret_str HT.out.symm, (Below.refl _ _).alloc (Nat.le_refl _) _⟩
    · have hz : ¬ (n : Int) < 10 := by omega
      have HT : Hid (txt n = txt (n / 10) ++ ⟨#[dgt (n % 10)]⟩) := txt_big n h10
      have hrec := ih (n / 10) (by omega) (by omega)
      have hsz := txt_le (n / 10) (by omega)
      have hadd : ¬ 9223372036854775807 < (txt (n / 10)).size + 1 := by omega
      have hw1 : IntKind.i64.wrap ((n : Int) / 10) = (n : Int) / 10 := wraps_i64 _ (by omega) (by omega)
      have hw2 : (n : Int).tmod 10 = (n : Int) % 10 := Int.tmod_eq_emod_of_nonneg (by omega)
      have hw3 : IntKind.i64.wrap (48 + (n : Int) % 10) = 48 + (n : Int) % 10 := wraps_i64 _ (by omega) (by omega)
      have hw4 : IntKind.u8.wrap (48 + (n : Int) % 10) = 48 + (n : Int) % 10 := wraps_u8 _ (by omega) (by omega)
      have hcv : ∀ (W : World) (b : Nat), W.cell? ⟨b, 0, none⟩ = some (.int .u8 (48 + (n : Int) % 10)) → (convert 68 9 (.slice (some ⟨b, 0, none⟩) 1 1)).run Tryz.prog W = .ok (.string ⟨#[dgt (n % 10)]⟩) W := fun W b h => one_byte W b (n % 10) (by omega) (by rw [h]; simp)
      have HR : Hid (∀ w : World, Calls Tryz.prog 12 #[.int .i64 ((n / 10 : Nat) : Int)] w fun e w' => e = .returned (.string (txt (n / 10))) ∧ Below w.heap.size w w') := hrec
      clear ih hrec
      go_enter Tryz.func12, Tryz.ntmps12
      go_wp2_with (go_at_call 25; refine (l01Num_any _ _).mono ?_; rw [hnb]; rintro e w' ⟨rfl, hw'⟩; replace hw' := hw'.symm; subst hw')
      go_region_law (refine step_call rfl 12 (.tmp 14) 3 rfl (.int .i64 ((n / 10 : Nat) : Int)) _ (by simp [Act.eval, Act.put]) (enter5 _) (HR.out _) ?_; intro w1 hb1; have hc1 := bcell hb1)
      all_goals
        go_wp2
        go_ret
        refine ⟨ret_str HT.out.symm, ?_⟩
        first | exact (((Below.refl w.heap.size w).drew).trans hb1).alloc (by have := hb1.size; simpa using this) _ | exact (((Below.refl w.heap.size w).alloc (Nat.le_refl _) _).drew).trans (hb1.mono (by simp))

theorem specText_no (n : Int) (w : World) (h : numB n = false) :
    Calls Tryz.prog 12 #[.int .i64 n] w fun e w' => e = .returned (.string ⟨#[]⟩) ∧ w' = w := by
  go_enter Tryz.func12, Tryz.ntmps12
  go_wp2_with (go_at_call 25; refine (l01Num_any _ _).mono ?_; rw [h]; rintro e w' ⟨rfl, rfl⟩)
  go_ret
  exact ⟨rfl, rfl⟩

theorem grow_below (w : World) (k : Nat) (os : Array Obj) : Below w.heap.size w (Sort.grow (w.drewN k) os) :=
  ⟨rfl, rfl, rfl, by simp [Sort.grow], fun j hj => by
    show (w.heap ++ os)[j]? = w.heap[j]?
    rw [Array.getElem?_append_left hj]⟩

theorem implText_any (n : Nat) (hn : n ≤ 281474976710655) (w : World) (htab : Lib.TabIs Tryz.prog w "internal/strconv.uint64pow10" .u64 Lib.pow10Tab) :
    Calls Tryz.prog 37 #[.int .i64 (n : Int)] w fun e w' => e = .returned (.string (txt n)) ∧ Below w.heap.size w w' := by
  have h0 : ¬ (n : Int) < 0 := by omega
  have h1 : ¬ (281474976710655 : Int) < (n : Int) := by omega
  have HI : Hid (Lib.itoa (n : Int) = Lib.decDigits n) := by unfold Hid Lib.itoa; rw [if_neg (by omega)]; simp
  go_enter Tryz.func37, Tryz.ntmps37
  go_wp2_with (go_at_call 60; refine (Tryz.strconv_Itoa (n : Int) (by omega) (by omega) _ htab).mono ?_; rw [HI.out]; rintro e w' ⟨he, k, os, hw'⟩; replace he : e = .returned (.string (txt n)) := he; subst he; subst hw')
  go_ret
  exact ⟨rfl, grow_below _ _ _⟩

theorem implText_no (n : Int) (w : World) (h : numB n = false) :
    Calls Tryz.prog 37 #[.int .i64 n] w fun e w' => e = .returned (.string ⟨#[]⟩) ∧ w' = w := by
  unfold numB at h
  by_cases h0 : n < 0
  · go_enter Tryz.func37, Tryz.ntmps37
    go_wp2
    go_ret
    exact ⟨rfl, rfl⟩
  · have h1 : (281474976710655 : Int) < n := by simp at h; omega
    go_enter Tryz.func37, Tryz.ntmps37
    go_wp2
    go_ret
    exact ⟨rfl, rfl⟩

end Go.Proofs.YtmpobkbjjnafmaaGreatDoor.Num

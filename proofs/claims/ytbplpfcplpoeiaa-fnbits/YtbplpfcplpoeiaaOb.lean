/-
  Bits counted side by side, plain.
-/
import Derived.Test.YtbplpfcplpoeiaaBx
namespace Go.Proofs.Ytbplpfcplpoeiaa.Ob

theorem and_split (lo h m0 m : Nat) (hl : lo < 256) (hm : m0 < 256) : (lo + 256 * h) &&& (m0 + 256 * m) = (lo &&& m0) + 256 * (h &&& m) := by
  have e1 : ((lo + 256 * h) &&& (m0 + 256 * m)) % 2 ^ 8 = lo &&& m0 := by
    rw [Nat.and_mod_two_pow, show (lo + 256 * h) % 2 ^ 8 = lo from by omega, show (m0 + 256 * m) % 2 ^ 8 = m0 from by omega]
  have e2 : ((lo + 256 * h) &&& (m0 + 256 * m)) / 2 ^ 8 = h &&& m := by
    rw [Nat.and_div_two_pow, show (lo + 256 * h) / 2 ^ 8 = h from by omega, show (m0 + 256 * m) / 2 ^ 8 = m from by omega]
  omega

/-- The byte m0, k times. -/
def rep (m0 : Nat) : Nat → Nat
  | 0 => 0
  | k + 1 => m0 + 256 * rep m0 k
/-- The k low bytes of x, each by f. -/
def join (f : Nat → Nat) : Nat → Nat → Nat
  | 0, _ => 0
  | k + 1, x => f (x % 256) + 256 * join f k (x / 256)
theorem join_id : ∀ k x, x < 256 ^ k → join (fun b => b) k x = x
  | 0, x, h => by simp at h; simp [join, h]
  | k + 1, x, h => by
    simp only [join]
    rw [join_id k (x / 256) (by rw [Nat.pow_succ] at h; omega)]
    omega

def sA (x m : Nat) : Nat := (x / 2 &&& m) + (x &&& m)
def sB (x m : Nat) : Nat := (x / 4 &&& m) + (x &&& m)
theorem byteA : ∀ lo, lo < 256 → ∀ t, t < 2 → (lo / 2 + 128 * t) &&& 85 = lo / 2 &&& 85 := by decide +kernel
theorem byteB : ∀ lo, lo < 256 → ∀ t, t < 4 → (lo / 4 + 64 * t) &&& 51 = lo / 4 &&& 51 := by decide +kernel
theorem stepA (lo h m : Nat) (hl : lo < 256) : sA (lo + 256 * h) (85 + 256 * m) = sA lo 85 + 256 * sA h m := by
  unfold sA
  have e : (lo + 256 * h) / 2 = (lo / 2 + 128 * (h % 2)) + 256 * (h / 2) := by omega
  rw [e, and_split _ _ _ _ (by omega) (by omega), and_split _ _ _ _ hl (by omega), byteA lo hl _ (Nat.mod_lt _ (by omega))]
  omega
theorem stepB (lo h m : Nat) (hl : lo < 256) : sB (lo + 256 * h) (51 + 256 * m) = sB lo 51 + 256 * sB h m := by
  unfold sB
  have e : (lo + 256 * h) / 4 = (lo / 4 + 64 * (h % 4)) + 256 * (h / 4) := by omega
  rw [e, and_split _ _ _ _ (by omega) (by omega), and_split _ _ _ _ hl (by omega), byteB lo hl _ (Nat.mod_lt _ (by omega))]
  omega
theorem joinA (f : Nat → Nat) (hf : ∀ b, b < 256 → f b < 256) : ∀ k x, sA (join f k x) (rep 85 k) = join (fun b => sA (f b) 85) k x
  | 0, x => by simp [join, rep, sA]
  | k + 1, x => by
    simp only [join, rep]
    rw [stepA _ _ _ (hf _ (Nat.mod_lt _ (by omega))), joinA f hf k]
theorem joinB (f : Nat → Nat) (hf : ∀ b, b < 256 → f b < 256) : ∀ k x, sB (join f k x) (rep 51 k) = join (fun b => sB (f b) 51) k x
  | 0, x => by simp [join, rep, sB]
  | k + 1, x => by
    simp only [join, rep]
    rw [stepB _ _ _ (hf _ (Nat.mod_lt _ (by omega))), joinB f hf k]
theorem join_low (g : Nat → Nat) (hg : ∀ b, b < 256 → g b / 16 ≤ 4 ∧ g b % 16 ≤ 4) : ∀ k x, join g k x % 16 ≤ 4
  | 0, x => by simp [join]
  | k + 1, x => by
    simp only [join]
    have := (hg _ (Nat.mod_lt x (by omega : 0 < 256))).2
    omega
theorem joinC (g : Nat → Nat) (hg : ∀ b, b < 256 → g b / 16 ≤ 4 ∧ g b % 16 ≤ 4) : ∀ k x, (join g k x / 16 + join g k x) &&& rep 15 k = join (fun b => g b / 16 + g b % 16) k x
  | 0, x => by simp [join, rep]
  | k + 1, x => by
    have h0 := hg _ (Nat.mod_lt x (by omega : 0 < 256))
    have h1 := join_low g hg k (x / 256)
    have ih := joinC g hg k (x / 256)
    simp only [join, rep]
    generalize g (x % 256) = a at *
    generalize join g k (x / 256) = y at *
    have e : (a + 256 * y) / 16 + (a + 256 * y) = (a / 16 + 16 * (y % 16) + a) + 256 * (y / 16 + y) := by omega
    rw [e, and_split _ _ _ _ (by omega) (by omega), ih]
    have e2 : (a / 16 + 16 * (y % 16) + a) &&& 15 = a / 16 + a % 16 := by
      rw [show (15 : Nat) = 2 ^ 4 - 1 from rfl, Nat.and_two_pow_sub_one_eq_mod]
      omega
    rw [e2]
/-- What becomes of a byte. -/
def pA (b : Nat) : Nat := sA b 85
def pB (b : Nat) : Nat := sB (pA b) 51
def pc (b : Nat) : Nat := pB b / 16 + pB b % 16
theorem pA_lt : ∀ b, b < 256 → pA b < 256 := by decide +kernel
theorem pB_ok : ∀ b, b < 256 → pB b / 16 ≤ 4 ∧ pB b % 16 ≤ 4 := by decide +kernel
theorem pc_eq : ∀ b, b < 256 → pc b = b % 2 + b / 2 % 2 + b / 4 % 2 + b / 8 % 2 + b / 16 % 2 + b / 32 % 2 + b / 64 % 2 + b / 128 % 2 := by decide +kernel
theorem swar (x : Nat) (h : x < 256 ^ 8) : (sB (sA x (rep 85 8)) (rep 51 8) / 16 + sB (sA x (rep 85 8)) (rep 51 8)) &&& rep 15 8 = join pc 8 x := by
  have e1 : sA x (rep 85 8) = join pA 8 x := by
    have := joinA (fun b => b) (fun b h => h) 8 x
    rw [join_id 8 x h] at this
    exact this
  have e2 : sB (join pA 8 x) (rep 51 8) = join pB 8 x := joinB pA pA_lt 8 x
  rw [e1, e2]
  exact joinC pB pB_ok 8 x
theorem cnt_byte (n k : Nat) : Bt.cnt n (k + 8) = pc (n % 256) + Bt.cnt (n / 256) k := by
  rw [pc_eq _ (Nat.mod_lt _ (by omega))]
  have e : ∀ j : Nat, n / 2 ^ j / 2 = n / 2 ^ (j + 1) := fun j => by rw [Nat.div_div_eq_div_mul, Nat.pow_succ]
  rw [show k + 8 = (k + 7) + 1 from rfl, Bt.cnt_half, show k + 7 = (k + 6) + 1 from rfl, Bt.cnt_half, show k + 6 = (k + 5) + 1 from rfl, Bt.cnt_half, show k + 5 = (k + 4) + 1 from rfl, Bt.cnt_half,
    show k + 4 = (k + 3) + 1 from rfl, Bt.cnt_half, show k + 3 = (k + 2) + 1 from rfl, Bt.cnt_half, show k + 2 = (k + 1) + 1 from rfl, Bt.cnt_half, Bt.cnt_half]
  have e8 : n / 2 / 2 / 2 / 2 / 2 / 2 / 2 / 2 = n / 256 := by omega
  rw [e8]
  generalize Bt.cnt (n / 256) k = q
  omega
theorem pc_le {b : Nat} (h : b < 256) : pc b ≤ 8 := by rw [pc_eq b h]; omega
/-- The last three sums. -/
theorem sums (x : Nat) (h : x < 2 ^ 48) (c d e f : Nat) (hc : c = join pc 8 x) (hd : d = c + c / 256) (he : e = d + d / 65536) (hf : f = e + e / 4294967296) : f % 128 = Bt.cnt x 48 ∧ f < 2 ^ 63 := by
  have z : pc 0 = 0 := by decide +kernel
  have e6 : x / 256 / 256 / 256 / 256 / 256 / 256 = 0 := by omega
  rw [show 48 = 0 + 8 + 8 + 8 + 8 + 8 + 8 from rfl, cnt_byte, cnt_byte, cnt_byte, cnt_byte, cnt_byte, cnt_byte]
  simp only [join, e6, Bt.cnt, Nat.zero_mod, Nat.zero_div, z] at hc ⊢
  have l0 := pc_le (Nat.mod_lt x (by omega : 0 < 256))
  have l1 := pc_le (Nat.mod_lt (x / 256) (by omega : 0 < 256))
  have l2 := pc_le (Nat.mod_lt (x / 256 / 256) (by omega : 0 < 256))
  have l3 := pc_le (Nat.mod_lt (x / 256 / 256 / 256) (by omega : 0 < 256))
  have l4 := pc_le (Nat.mod_lt (x / 256 / 256 / 256 / 256) (by omega : 0 < 256))
  have l5 := pc_le (Nat.mod_lt (x / 256 / 256 / 256 / 256 / 256) (by omega : 0 < 256))
  generalize pc (x % 256) = c0 at *
  generalize pc (x / 256 % 256) = c1 at *
  generalize pc (x / 256 / 256 % 256) = c2 at *
  generalize pc (x / 256 / 256 / 256 % 256) = c3 at *
  generalize pc (x / 256 / 256 / 256 / 256 % 256) = c4 at *
  generalize pc (x / 256 / 256 / 256 / 256 / 256 % 256) = c5 at *
  clear e6 h z
  have q1 : c / 256 = c1 + 256 * c2 + 65536 * c3 + 16777216 * c4 + 4294967296 * c5 := by omega
  rw [q1] at hd
  clear q1
  have h0 : c = c0 + 256 * c1 + 65536 * c2 + 16777216 * c3 + 4294967296 * c4 + 1099511627776 * c5 := by omega
  rw [h0] at hd
  clear h0 hc
  have q2 : d / 65536 = (c2 + c3) + 256 * (c3 + c4) + 65536 * (c4 + c5) + 16777216 * c5 := by omega
  rw [q2] at he
  clear q2
  rw [hd] at he
  clear hd
  have q3 : e / 4294967296 = (c4 + c5) + 256 * c5 := by omega
  rw [q3, he] at hf
  clear q3 he
  omega

end Go.Proofs.Ytbplpfcplpoeiaa.Ob

/-
  Datagrams as lists of bytes: the head, its sum, what is read of it. Lists alone: no code is spoken of.
-/
import Derived.Test.YthgbjbebjjeddaaPbr
import Derived.Test.YthgbjbebjjeddaaSum
namespace Go.Proofs.Ythgbjbebjjeddaa.Ipl
open Go Go.RowKit
open Num Rw Put Pb Sm
set_option maxRecDepth 4000

/-- The sum of the bytes in pairs, turned. -/
def s16 (l : List Int) : Int := 65535 - sm l ((l.length + 1) / 2)
theorem s16_bd {l : List Int} (hy : Byt l) : 0 ≤ s16 l ∧ s16 l ≤ 65535 := by
  have := sm_bd l hy ((l.length + 1) / 2)
  unfold s16; omega
theorem s16_ok {l : List Int} (hy : Byt l) : numOkB (s16 l) 2 = true := by
  have := s16_bd hy
  unfold numOkB
  simp [pw]
  omega

theorem digs1 (N : Nat) : digs N 1 1 = [((N % 256 : Nat) : Int)] := by simp [digs, dig, pw]
theorem digs2 (N : Nat) : digs N 2 2 = [((N / 256 % 256 : Nat) : Int), ((N % 256 : Nat) : Int)] := by simp [digs, dig, pw, List.range_succ]
theorem digs4 (N : Nat) : digs N 4 4 = [((N / 16777216 % 256 : Nat) : Int), ((N / 65536 % 256 : Nat) : Int), ((N / 256 % 256 : Nat) : Int), ((N % 256 : Nat) : Int)] := by simp [digs, dig, pw, List.range_succ]
theorem add1 (l : List Int) (n : Int) : add l n 1 = l ++ [((n.toNat % 256 : Nat) : Int)] := by unfold add; rw [show (1 : Int).toNat = 1 from rfl, digs1]
theorem add2 (l : List Int) (n : Int) : add l n 2 = l ++ [((n.toNat / 256 % 256 : Nat) : Int), ((n.toNat % 256 : Nat) : Int)] := by unfold add; rw [show (2 : Int).toNat = 2 from rfl, digs2]
theorem add4 (l : List Int) (n : Int) : add l n 4 = l ++ [((n.toNat / 16777216 % 256 : Nat) : Int), ((n.toNat / 65536 % 256 : Nat) : Int), ((n.toNat / 256 % 256 : Nat) : Int), ((n.toNat % 256 : Nat) : Int)] := by unfold add; rw [show (4 : Int).toNat = 4 from rfl, digs4]

theorem ok1 {n : Int} (h : numOkB n 1 = true) : 0 ≤ n ∧ n ≤ 255 := by
  unfold numOkB at h
  simp [pw] at h
  omega
theorem ok2 {n : Int} (h : numOkB n 2 = true) : 0 ≤ n ∧ n ≤ 65535 := by
  unfold numOkB at h
  simp [pw] at h
  omega
theorem ok4 {n : Int} (h : numOkB n 4 = true) : 0 ≤ n ∧ n ≤ 4294967295 := by
  unfold numOkB at h
  simp [pw] at h
  omega
theorem mk1 {n : Int} (h0 : 0 ≤ n) (h : n ≤ 255) : numOkB n 1 = true := by
  unfold numOkB; simp [pw]; omega
theorem mk2 {n : Int} (h0 : 0 ≤ n) (h : n ≤ 65535) : numOkB n 2 = true := by
  unfold numOkB; simp [pw]; omega
theorem mk4 {n : Int} (h0 : 0 ≤ n) (h : n ≤ 4294967295) : numOkB n 4 = true := by
  unfold numOkB; simp [pw]; omega

/-- The head of a datagram of 'len' bytes in all, with a sum in it. -/
def head (ttl proto src dst len sum : Int) : List Int := add (add (add (add (add (add (add [69, 0] len 2) 0 4) ttl 1) proto 1) sum 2) src 4) dst 4
/-- The bytes of a datagram. -/
def ipL (ttl proto src dst : Int) (q : List Int) : List Int := head ttl proto src dst (20 + q.length) (s16 (head ttl proto src dst (20 + q.length) 0)) ++ q

theorem head_len (a b c d e f : Int) : (head a b c d e f).length = 20 := by
  unfold head
  rw [add_len, add_len, add_len, add_len, add_len, add_len, add_len]
  rfl
theorem byt_two : Byt [69, 0] := by intro n hn; simp at hn; omega
theorem head_byt (a b c d e f : Int) : Byt (head a b c d e f) :=
  add_byt (add_byt (add_byt (add_byt (add_byt (add_byt (add_byt byt_two _ _) _ _) _ _) _ _) _ _) _ _) _ _

/-- A head, byte by byte. -/
theorem head_eq (a b c d e f : Int) : head a b c d e f = [69, 0, ((e.toNat / 256 % 256 : Nat) : Int), ((e.toNat % 256 : Nat) : Int), 0, 0, 0, 0, ((a.toNat % 256 : Nat) : Int), ((b.toNat % 256 : Nat) : Int), ((f.toNat / 256 % 256 : Nat) : Int), ((f.toNat % 256 : Nat) : Int),
    ((c.toNat / 16777216 % 256 : Nat) : Int), ((c.toNat / 65536 % 256 : Nat) : Int), ((c.toNat / 256 % 256 : Nat) : Int), ((c.toNat % 256 : Nat) : Int), ((d.toNat / 16777216 % 256 : Nat) : Int), ((d.toNat / 65536 % 256 : Nat) : Int), ((d.toNat / 256 % 256 : Nat) : Int), ((d.toNat % 256 : Nat) : Int)] := by
  unfold head
  rw [add4, add4, add2, add1, add1, add4, add2]
  simp

/-- The specification's way to the same head. -/
theorem head_spec {a b : Int} (ha : numOkB a 1 = true) (hb : numOkB b 1 = true) (c d e f : Int) : add (add (add (add [69, 0] e 2 ++ [0, 0, 0, 0, a, b]) f 2) c 4) d 4 = head a b c d e f := by
  have h1 := ok1 ha
  have h2 := ok1 hb
  have e1 : ((a.toNat % 256 : Nat) : Int) = a := by omega
  have e2 : ((b.toNat % 256 : Nat) : Int) = b := by omega
  rw [head_eq, add4, add4, add2, add2, e1, e2]
  simp

/-- The first twenty bytes, with nought in the sum's place. -/
def zero (l : List Int) : List Int := l.take 10 ++ ([0, 0] ++ (l.take 20).drop 12)
theorem zero_head (a b c d e f : Int) : zero (head a b c d e f) = head a b c d e 0 := by
  rw [head_eq, head_eq]
  simp [zero]

theorem uncons {l : List Int} {n : Nat} (h : n + 1 ≤ l.length) : ∃ x r, l = x :: r ∧ n ≤ r.length := by
  cases l with
  | nil => simp at h
  | cons x r => exact ⟨x, r, rfl, by simpa using h⟩
theorem twenty {l : List Int} (h : 20 ≤ l.length) : ∃ x0 x1 x2 x3 x4 x5 x6 x7 x8 x9 x10 x11 x12 x13 x14 x15 x16 x17 x18 x19 r, l = x0 :: x1 :: x2 :: x3 :: x4 :: x5 :: x6 :: x7 :: x8 :: x9 :: x10 :: x11 :: x12 :: x13 :: x14 :: x15 :: x16 :: x17 :: x18 :: x19 :: r := by
  obtain ⟨x0, l1, rfl, h1⟩ := uncons h
  obtain ⟨x1, l2, rfl, h2⟩ := uncons h1
  obtain ⟨x2, l3, rfl, h3⟩ := uncons h2
  obtain ⟨x3, l4, rfl, h4⟩ := uncons h3
  obtain ⟨x4, l5, rfl, h5⟩ := uncons h4
  obtain ⟨x5, l6, rfl, h6⟩ := uncons h5
  obtain ⟨x6, l7, rfl, h7⟩ := uncons h6
  obtain ⟨x7, l8, rfl, h8⟩ := uncons h7
  obtain ⟨x8, l9, rfl, h9⟩ := uncons h8
  obtain ⟨x9, l10, rfl, h10⟩ := uncons h9
  obtain ⟨x10, l11, rfl, h11⟩ := uncons h10
  obtain ⟨x11, l12, rfl, h12⟩ := uncons h11
  obtain ⟨x12, l13, rfl, h13⟩ := uncons h12
  obtain ⟨x13, l14, rfl, h14⟩ := uncons h13
  obtain ⟨x14, l15, rfl, h15⟩ := uncons h14
  obtain ⟨x15, l16, rfl, h16⟩ := uncons h15
  obtain ⟨x16, l17, rfl, h17⟩ := uncons h16
  obtain ⟨x17, l18, rfl, h18⟩ := uncons h17
  obtain ⟨x18, l19, rfl, h19⟩ := uncons h18
  obtain ⟨x19, l20, rfl, h20⟩ := uncons h19
  exact ⟨_, _, _, _, _, _, _, _, _, _, _, _, _, _, _, _, _, _, _, _, _, rfl⟩

theorem hi2 {x y : Int} (hx : 0 ≤ x ∧ x ≤ 255) (hy : 0 ≤ y ∧ y ≤ 255) : (((x * 256 + y).toNat / 256 % 256 : Nat) : Int) = x := by omega
theorem lo2 {x y : Int} (hx : 0 ≤ x ∧ x ≤ 255) (hy : 0 ≤ y ∧ y ≤ 255) : (((x * 256 + y).toNat % 256 : Nat) : Int) = y := by omega
theorem w4a {x y z u : Int} (hx : 0 ≤ x ∧ x ≤ 255) (hy : 0 ≤ y ∧ y ≤ 255) (hz : 0 ≤ z ∧ z ≤ 255) (hu : 0 ≤ u ∧ u ≤ 255) : (((((x * 256 + y) * 256 + z) * 256 + u).toNat / 16777216 % 256 : Nat) : Int) = x := by omega
theorem w4b {x y z u : Int} (hx : 0 ≤ x ∧ x ≤ 255) (hy : 0 ≤ y ∧ y ≤ 255) (hz : 0 ≤ z ∧ z ≤ 255) (hu : 0 ≤ u ∧ u ≤ 255) : (((((x * 256 + y) * 256 + z) * 256 + u).toNat / 65536 % 256 : Nat) : Int) = y := by omega
theorem w4c {x y z u : Int} (hx : 0 ≤ x ∧ x ≤ 255) (hy : 0 ≤ y ∧ y ≤ 255) (hz : 0 ≤ z ∧ z ≤ 255) (hu : 0 ≤ u ∧ u ≤ 255) : (((((x * 256 + y) * 256 + z) * 256 + u).toNat / 256 % 256 : Nat) : Int) = z := by omega
theorem w4d {x y z u : Int} (hx : 0 ≤ x ∧ x ≤ 255) (hy : 0 ≤ y ∧ y ≤ 255) (hz : 0 ≤ z ∧ z ≤ 255) (hu : 0 ≤ u ∧ u ≤ 255) : (((((x * 256 + y) * 256 + z) * 256 + u).toNat % 256 : Nat) : Int) = u := by omega
theorem lo1 {x : Int} (hx : 0 ≤ x ∧ x ≤ 255) : ((x.toNat % 256 : Nat) : Int) = x := by omega

/-- What the specification writes again of what it has read is what stands there. -/
theorem zero_read {l : List Int} (hy : Byt l) (h20 : 20 ≤ l.length) (h0 : l.getD 0 0 = 69) (h1 : l.getD 1 0 = 0) (h4 : Get.acc l 4 4 = 0) (h2 : Get.acc l 2 2 = l.length) :
    head (l.getD 8 0) (l.getD 9 0) (Get.acc l 12 4) (Get.acc l 16 4) l.length 0 = zero l := by
  rw [← h2, head_eq]
  have b2 := hy.at 2
  have b3 := hy.at 3
  have b4 := hy.at 4
  have b5 := hy.at 5
  have b6 := hy.at 6
  have b7 := hy.at 7
  have b8 := hy.at 8
  have b9 := hy.at 9
  have b12 := hy.at 12
  have b13 := hy.at 13
  have b14 := hy.at 14
  have b15 := hy.at 15
  have b16 := hy.at 16
  have b17 := hy.at 17
  have b18 := hy.at 18
  have b19 := hy.at 19
  clear h2 hy
  obtain ⟨x0, x1, x2, x3, x4, x5, x6, x7, x8, x9, x10, x11, x12, x13, x14, x15, x16, x17, x18, x19, r, rfl⟩ := twenty h20
  clear h20
  simp only [Get.acc, zero, List.getD_cons_zero, List.getD_cons_succ, Nat.reduceAdd, List.take_succ_cons, List.take_zero, List.drop_succ_cons, List.drop_zero, List.cons_append, List.nil_append, Int.zero_mul, Int.zero_add] at *
  subst h0 h1
  have e4 : x4 = 0 := by omega
  have e5 : x5 = 0 := by omega
  have e6 : x6 = 0 := by omega
  have e7 : x7 = 0 := by omega
  subst e4 e5 e6 e7
  rw [hi2 b2 b3, lo2 b2 b3, lo1 b8, lo1 b9, w4a b12 b13 b14 b15, w4b b12 b13 b14 b15, w4c b12 b13 b14 b15, w4d b12 b13 b14 b15, w4a b16 b17 b18 b19, w4b b16 b17 b18 b19, w4c b16 b17 b18 b19, w4d b16 b17 b18 b19]
  rfl

/-- The sum of the first k pairs is the plain sum modulo 65535, and nought only where all are. -/
def plain (l : List Int) : Nat → Int
  | 0 => 0
  | k + 1 => plain l k + pair l k
theorem sm_mod (l : List Int) (hy : Byt l) : ∀ k, sm l k % 65535 = plain l k % 65535 ∧ 0 ≤ plain l k ∧ (0 < plain l k → 0 < sm l k)
  | 0 => by simp [sm, plain]
  | k + 1 => by
    obtain ⟨h1, h2, h3⟩ := sm_mod l hy k
    have hb := sm_bd l hy k
    have hp := pair_bd l hy k
    simp only [sm, plain, fold]
    split <;> omega

theorem plain_head (a b c d e f : Int) : plain (head a b c d e f) 10 = plain (head a b c d e 0) 10 + ((f.toNat / 256 % 256 : Nat) : Int) * 256 + ((f.toNat % 256 : Nat) : Int) := by
  rw [head_eq, head_eq]
  simp only [plain, pair, List.getD_cons_zero, List.getD_cons_succ, Nat.reduceMul, Nat.reduceAdd, Int.toNat_zero, Nat.zero_div, Nat.zero_mod]
  omega
theorem plain_pos (a b c d e f : Int) : 0 < plain (head a b c d e f) 10 := by
  rw [head_eq]
  simp only [plain, pair, List.getD_cons_zero, List.getD_cons_succ, Nat.reduceMul, Nat.reduceAdd]
  omega

/-- The sum of a head with its sum in it is nought. -/
theorem sum_zero (a b c d e : Int) : s16 (head a b c d e (s16 (head a b c d e 0))) = 0 := by
  have hS := s16_bd (head_byt a b c d e 0)
  have hp := plain_head a b c d e (s16 (head a b c d e 0))
  obtain ⟨m0, p0, q0⟩ := sm_mod _ (head_byt a b c d e 0) 10
  obtain ⟨m1, p1, q1⟩ := sm_mod _ (head_byt a b c d e (s16 (head a b c d e 0))) 10
  have r1 := q1 (plain_pos _ _ _ _ _ _)
  have b0 := sm_bd _ (head_byt a b c d e 0) 10
  have b1 := sm_bd _ (head_byt a b c d e (s16 (head a b c d e 0))) 10
  have e0 : s16 (head a b c d e 0) = 65535 - sm (head a b c d e 0) 10 := by unfold s16; rw [head_len]
  generalize s16 (head a b c d e 0) = S at *
  have e1 : s16 (head a b c d e S) = 65535 - sm (head a b c d e S) 10 := by unfold s16; rw [head_len]
  rw [e1]
  have hs2 : ((S.toNat / 256 % 256 : Nat) : Int) * 256 + ((S.toNat % 256 : Nat) : Int) = S := by omega
  omega

/-- The code with which a datagram is read. -/
def code (l : List Int) : Int :=
  if l.length < 20 ∨ 1500 < l.length then 1 else if ¬ l.getD 0 0 = 69 then 2 else if ¬ l.getD 1 0 = 0 ∨ ¬ Get.acc l 4 4 = 0 then 3 else if ¬ Get.acc l 2 2 = l.length then 4 else if ¬ Get.acc l 10 2 = s16 (zero l) then 5 else 0

theorem ip_len (a b c d : Int) (q : List Int) : (ipL a b c d q).length = 20 + q.length := by unfold ipL; rw [List.length_append, head_len]
theorem ip_byt (a b c d : Int) {q : List Int} (h : Byt q) : Byt (ipL a b c d q) := byt_app (head_byt _ _ _ _ _ _) h
theorem ip_take (a b c d : Int) (q : List Int) : (ipL a b c d q).take 20 = head a b c d (20 + q.length) (s16 (head a b c d (20 + q.length) 0)) := by
  unfold ipL
  rw [List.take_append_of_le_length (by rw [head_len]; omega), List.take_of_length_le (by rw [head_len]; omega)]
theorem zero_take (l : List Int) : zero l = zero (l.take 20) := by
  unfold zero
  rw [List.take_take, List.take_take]
  rfl
theorem ip_zero (a b c d : Int) (q : List Int) : zero (ipL a b c d q) = head a b c d (20 + q.length) 0 := by
  rw [zero_take, ip_take, zero_head]
theorem ip_drop (a b c d : Int) (q : List Int) : (ipL a b c d q).drop 20 = q := by
  unfold ipL
  rw [List.drop_append_of_le_length (by rw [head_len]; omega), List.drop_of_length_le (by rw [head_len]; omega)]
  rfl

/-- What is read of a written datagram. -/
theorem ip_facts {a b c d : Int} {q : List Int} (ha : numOkB a 1 = true) (hb : numOkB b 1 = true) (hc : numOkB c 4 = true) (hd : numOkB d 4 = true) (hq : q.length ≤ 1480) :
    (ipL a b c d q).getD 0 0 = 69 ∧ (ipL a b c d q).getD 1 0 = 0 ∧ Get.acc (ipL a b c d q) 4 4 = 0 ∧ Get.acc (ipL a b c d q) 2 2 = (ipL a b c d q).length ∧ Get.acc (ipL a b c d q) 10 2 = s16 (zero (ipL a b c d q)) ∧
    (ipL a b c d q).getD 8 0 = a ∧ (ipL a b c d q).getD 9 0 = b ∧ Get.acc (ipL a b c d q) 12 4 = c ∧ Get.acc (ipL a b c d q) 16 4 = d := by
  rw [ip_zero, ip_len]
  have h1 := ok1 ha
  have h2 := ok1 hb
  have h3 := ok4 hc
  have h4 := ok4 hd
  have hS := s16_bd (head_byt a b c d (20 + q.length) 0)
  unfold ipL
  generalize s16 (head a b c d (20 + q.length) 0) = S at *
  rw [head_eq]
  simp only [Get.acc, List.cons_append, List.getD_cons_zero, List.getD_cons_succ, Nat.reduceAdd, Int.zero_mul, Int.zero_add]
  refine ⟨trivial, trivial, trivial, by omega, by omega, by omega, by omega, by omega, by omega⟩

/-- The bytes of an inner datagram. -/
def udpH (src dst len : Int) : List Int := add (add (add (add [] src 2) dst 2) len 2) 0 2
def udpL (src dst : Int) (q : List Int) : List Int := udpH src dst (8 + q.length) ++ q
theorem udpH_len (a b c : Int) : (udpH a b c).length = 8 := by
  unfold udpH
  rw [add_len, add_len, add_len, add_len]
  rfl
theorem udp_len (a b : Int) (q : List Int) : (udpL a b q).length = 8 + q.length := by unfold udpL; rw [List.length_append, udpH_len]
theorem udpH_byt (a b c : Int) : Byt (udpH a b c) := add_byt (add_byt (add_byt (add_byt (fun n h => by simp at h) _ _) _ _) _ _) _ _
theorem udp_byt (a b : Int) {q : List Int} (h : Byt q) : Byt (udpL a b q) := byt_app (udpH_byt _ _ _) h
theorem udp_spec (a b c : Int) : add (add (add [] a 2) b 2) c 2 ++ [0, 0] = udpH a b c := by
  unfold udpH
  rw [add2 _ 0]
  simp

end Go.Proofs.Ythgbjbebjjeddaa.Ipl

/-
  Contracts of the two PacketBytes: what they answer, on every packet.
-/
import Derived.Test.YthgbjbebjjeddaaLw
namespace Go.Proofs.Ythgbjbebjjeddaa.Pb
open Go Go.RowKit
open Num Rw Mk Un Put Pl App Pf

/-- The list with a number's digits behind it. -/
def add (l : List Int) (n size : Int) : List Int := l ++ digs n.toNat size.toNat size.toNat
theorem add_len (l : List Int) (n size : Int) : (add l n size).length = l.length + size.toNat := by unfold add; rw [List.length_append, digs_len]
theorem add_byt {l : List Int} (h : Byt l) (n size : Int) : Byt (add l n size) := byt_app h (digs_byt _ _ _)
/-- The sum of bytes. -/
def crcI (l : List Int) : Int := ((Crc.crc l l.length ^^^ 4294967295 : Nat) : Int)
theorem crcI_ok {l : List Int} (h : Byt l) : numOkB (crcI l) 4 = true := by
  have h1 := Crc.xor_lt (Crc.crc_lt l h l.length) (show 4294967295 < 4294967296 by decide)
  unfold numOkB crcI
  simp [pw]
  omega
def tagL (l : List Int) (t : Int) : List Int := if t = -1 then l else add (add l 33024 2) t 2
/-- What stands ahead of the sum. -/
def mid (d s t y : Int) (l : List Int) : List Int := add (tagL (add (add [] d 6) s 6) t) y 2 ++ l
/-- The bytes of a packet. -/
def pbL (d s t y : Int) (l : List Int) : List Int := add (mid d s t y l) (crcI (mid d s t y l)) 4

theorem ok_parts {d s t y : Int} {n : Nat} (h : Pk.okB d s t y n = true) : numOkB d 6 = true ∧ numOkB s 6 = true ∧ -1 ≤ t ∧ t ≤ 4094 ∧ 1536 ≤ y ∧ y ≤ 65535 ∧ ¬ y = 33024 ∧ n ≤ 1500 ∧ numOkB y 2 = true ∧ (¬ t = -1 → numOkB t 2 = true) := by
  unfold Pk.okB at h
  simp only [Bool.and_eq_true, decide_eq_true_eq] at h
  obtain ⟨⟨⟨⟨h1, h2⟩, h3⟩, h4⟩, h5⟩ := h
  simp only [Pk.tagB, Pk.typB, decide_eq_true_eq] at h3 h4
  refine ⟨(Pk.num6 d).trans h1, (Pk.num6 s).trans h2, h3.1, h3.2, h4.1, h4.2.1, h4.2.2, h5, ?_, fun ht => ?_⟩
  · unfold numOkB; simp [pw]; omega
  · unfold numOkB; simp [pw]; omega
theorem ok_tagType : numOkB 33024 2 = true := by decide

/-- A number is written behind: the list by a name. -/
def Put1 (w : World) (l : List Int) (n size : Int) (e : Ending) (w' : World) : Prop :=
  ∃ v L, e = .returned v ∧ Hid (L = add l n size) ∧ L.length = l.length + size.toNat ∧ Byt L ∧ HasI w' w.heap.size v L ∧ Below w.heap.size w w'
def Put2 (w : World) (l : List Int) (n size : Int) (e : Ending) (w' : World) : Prop :=
  ∃ v L, e = .returned (.tuple #[v, .bool true]) ∧ Hid (L = add l n size) ∧ L.length = l.length + size.toNat ∧ Byt L ∧ HasI w' w.heap.size v L ∧ Below w.heap.size w w'

theorem iput0 (n size : Int) (w : World) (hn : numOkB n size = true) : Calls Try.prog 47 #[.slice none 0 0, .int .i64 n, .int .i64 size] w (Put1 w [] n size) := by
  refine (with_nil n size w hn).mono ?_
  rintro e w' ⟨v, rfl, hv, hb⟩
  exact ⟨v, _, rfl, rfl, add_len [] n size, add_byt (l := []) (fun n h => by simp at h) n size, hv, hb⟩
theorem iput (v : Value) (base : Nat) (l : List Int) (n size : Int) (w : World) (h : HasI w base v l) (hy : Byt l) (hn : numOkB n size = true) (h6 : (l.length : Int) + size ≤ 60000) (hs : l.length ≤ 60000) : Calls Try.prog 47 #[v, .int .i64 n, .int .i64 size] w (Put1 w l n size) := by
  refine (with_own v base l n size w h (by omega) hy hn h6).mono ?_
  rintro e w' ⟨v, rfl, hv, hb⟩
  exact ⟨v, _, rfl, rfl, add_len l n size, add_byt hy n size, hv, hb⟩
theorem sput0 (n size : Int) (w : World) (hn : numOkB n size = true) : Calls Try.prog 97 #[.slice none 0 0, .int .i64 n, .int .i64 size] w (Put2 w [] n size) := by
  refine (specPut_own0 [] rfl n size w hn).mono ?_
  rintro e w' ⟨v, rfl, hv, hb⟩
  exact ⟨v, _, rfl, rfl, add_len [] n size, add_byt (l := []) (fun n h => by simp at h) n size, hv, hb⟩
theorem sput (v : Value) (base : Nat) (l : List Int) (n size : Int) (w : World) (h : HasI w base v l) (hy : Byt l) (hn : numOkB n size = true) (h6 : (l.length : Int) + size ≤ 60000) (hs : l.length ≤ 60000) : Calls Try.prog 97 #[v, .int .i64 n, .int .i64 size] w (Put2 w l n size) := by
  refine (specPut_hasI v base l n size w h (by omega) hy hn h6).mono ?_
  rintro e w' ⟨v, rfl, hv, hb⟩
  exact ⟨v, _, rfl, rfl, add_len l n size, add_byt hy n size, hv, hb⟩

/-- A packet's bytes are handed back, in memory of the call's own. -/
def ResY (w : World) (d s t y : Int) (l : List Int) (e : Ending) (w' : World) : Prop :=
  ∃ v, e = .returned (.tuple #[v, .bool true]) ∧ HasI w' w.heap.size v (pbL d s t y l) ∧ Below w.heap.size w w'

theorem icrc (v : Value) (base : Nat) (l : List Int) (w : World) (h : HasI w base v l) (hs : l.length ≤ 4194304) (hy : Byt l) :
    Calls Try.prog 48 #[v] w fun e w' => ∃ C, e = .returned (.int .i64 C) ∧ Hid (C = crcI l) ∧ numOkB C 4 = true ∧ Below w.heap.size w w' := by
  refine (implCrc_hasI v base l w h hs hy).mono ?_
  rintro e w' ⟨rfl, hb⟩
  exact ⟨crcI l, rfl, rfl, crcI_ok hy, hb⟩
set_option maxHeartbeats 800000 in
theorem implPlain (d s t y : Int) (a : Option Addr) (b off cap : Nat) (l : List Int) (w : World) (h : Rd w a b off l) (hok : Pk.okB d s t y l.length = true) (ht : t = -1) :
    Calls Try.prog 12 #[.agg #[.int .i64 d, .int .i64 s, .int .i64 t, .int .i64 y, .slice a l.length cap]] w (ResY w d s t y l) := by
  obtain ⟨hd6, hs6, ht1, ht2, hy1, hy2, hy3, hl5, hyy, htt⟩ := ok_parts hok
  have htag := ok_tagType
  obtain ⟨W0, hW0⟩ : ∃ W0, W0 = w.alloc (.cells #[.int .i64 d, .int .i64 s, .int .i64 t, .int .i64 y, .slice a l.length cap] 28) := ⟨_, rfl⟩
  have B : Below w.heap.size w W0 := by subst hW0; exact below_alloc1 _ _
  have k : W0.heap[w.heap.size]? = some (.cells #[.int .i64 d, .int .i64 s, .int .i64 t, .int .i64 y, .slice a l.length cap] 28 (0, 0)) := by subst hW0; exact at_new rfl
  have z : w.heap.size < W0.heap.size := by subst hW0; simp
  have hyl := h.byt
  replace h := h.below B
  subst ht
  clear htt
  go_enter Try.func12, Try.ntmps12
  go_wp2_with (first | (go_at_call 47; refine (iput _ _ _ C _ _ hv6 by6 hcr (by omega) (by omega)).mono ?_; rintro e w8 ⟨v8, L8, rfl, hL8, ln8, by8, hv8, hb⟩) | (go_at_call 48; refine (icrc _ _ _ _ hv6 (by omega) by6).mono ?_; rintro e w7 ⟨C, rfl, hC, hcr, hb⟩; replace B6 := next B6 hb; replace hv6 := hasI_below hv6 hb; clear hb) | (at_builtin; refine wpList_app rfl (.tmp 28) (.tmp 30) rfl _ v5 L5 l rfl hv5 a b off cap rfl h (by omega) (by omega) ?_; intro v6 w6 hv6 hgrow; have B6 := below_own hv5 B (by omega) hgrow; have by6 : Byt (L5 ++ l) := byt_app by5 hyl; have ln6 : (L5 ++ l).length = L5.length + l.length := List.length_append; obtain ⟨L6, hL6⟩ : ∃ L6, L6 = L5 ++ l := ⟨_, rfl⟩; rw [← hL6] at hv6 by6 ln6; have HL6 : Hid (L6 = L5 ++ l) := hL6; clear hL6 hv5 hgrow c0 c1 c2 c3 c4) | (go_at_call 47; refine (iput _ _ _ _ _ _ hv2 by2 hyy (by omega) (by omega)).mono ?_; rintro e w5 ⟨v5, L5, rfl, hL5, ln5, by5, hv5, hb⟩; have sz5 := hb.size; clear c0 c1 c2 c3 c4; replace B := Rw.next B hb; replace k := (hb.block _ z).trans k; replace z := Nat.lt_of_lt_of_le z hb.size; replace h := h.below hb; clear hb; simp at ln5; clear hv2; obtain ⟨c0, c1, c2, c3, c4⟩ := Pf.five k) | (go_at_call 47; refine (iput _ _ _ _ _ _ hv1 by1 hs6 (by omega) (by omega)).mono ?_; rintro e w2 ⟨v2, L2, rfl, hL2, ln2, by2, hv2, hb⟩; have sz2 := hb.size; clear c0 c1 c2 c3 c4; replace B := Rw.next B hb; replace k := (hb.block _ z).trans k; replace z := Nat.lt_of_lt_of_le z hb.size; replace h := h.below hb; clear hb; simp at ln2; clear hv1; obtain ⟨c0, c1, c2, c3, c4⟩ := Pf.five k) | (go_at_call 47; refine (iput0 _ _ _ hd6).mono ?_; rintro e w1 ⟨v1, L1, rfl, hL1, ln1, by1, hv1, hb⟩; have sz1 := hb.size; clear c0 c1 c2 c3 c4; replace B := Rw.next B hb; replace k := (hb.block _ z).trans k; replace z := Nat.lt_of_lt_of_le z hb.size; replace h := h.below hb; clear hb; simp at ln1; obtain ⟨c0, c1, c2, c3, c4⟩ := Pf.five k) | (go_at_call 46; rw [← hW0]; refine (Pk.implOk_any _ _ _ _ _ _ _ _).mono ?_; rw [hok]; rintro e wa ⟨rfl, hb⟩; replace B := Rw.next B hb; replace k := (hb.block _ z).trans k; replace z := Nat.lt_of_lt_of_le z hb.size; replace h := h.below hb; clear hb; obtain ⟨c0, c1, c2, c3, c4⟩ := Pf.five k; have zw := z))
  go_ret2
  refine ⟨_, rfl, ?_, next B6 hb⟩
  have sB6 := B6.size
  have e8 : L8 = pbL d s (-1) y l := by rw [hL8.out, hC.out, HL6.out, hL5.out, hL2.out, hL1.out]; simp [pbL, mid, tagL]
  rw [← e8]
  exact hasI_mono hv8 (by omega)

set_option maxHeartbeats 800000 in
theorem implTag (d s t y : Int) (a : Option Addr) (b off cap : Nat) (l : List Int) (w : World) (h : Rd w a b off l) (hok : Pk.okB d s t y l.length = true) (ht : ¬ t = -1) :
    Calls Try.prog 12 #[.agg #[.int .i64 d, .int .i64 s, .int .i64 t, .int .i64 y, .slice a l.length cap]] w (ResY w d s t y l) := by
  obtain ⟨hd6, hs6, ht1, ht2, hy1, hy2, hy3, hl5, hyy, htt⟩ := ok_parts hok
  have htag := ok_tagType
  obtain ⟨W0, hW0⟩ : ∃ W0, W0 = w.alloc (.cells #[.int .i64 d, .int .i64 s, .int .i64 t, .int .i64 y, .slice a l.length cap] 28) := ⟨_, rfl⟩
  have B : Below w.heap.size w W0 := by subst hW0; exact below_alloc1 _ _
  have k : W0.heap[w.heap.size]? = some (.cells #[.int .i64 d, .int .i64 s, .int .i64 t, .int .i64 y, .slice a l.length cap] 28 (0, 0)) := by subst hW0; exact at_new rfl
  have z : w.heap.size < W0.heap.size := by subst hW0; simp
  have hyl := h.byt
  replace h := h.below B
  replace htt := htt ht
  have hne : (t != -1) = true := by simpa using ht
  go_enter Try.func12, Try.ntmps12
  go_wp2_with (first | (go_at_call 47; refine (iput _ _ _ C _ _ hv6 by6 hcr (by omega) (by omega)).mono ?_; rintro e w8 ⟨v8, L8, rfl, hL8, ln8, by8, hv8, hb⟩) | (go_at_call 48; refine (icrc _ _ _ _ hv6 (by omega) by6).mono ?_; rintro e w7 ⟨C, rfl, hC, hcr, hb⟩; replace B6 := next B6 hb; replace hv6 := hasI_below hv6 hb; clear hb) | (at_builtin; refine wpList_app rfl (.tmp 28) (.tmp 30) rfl _ v5 L5 l rfl hv5 a b off cap rfl h (by omega) (by omega) ?_; intro v6 w6 hv6 hgrow; have B6 := below_own hv5 B (by omega) hgrow; have by6 : Byt (L5 ++ l) := byt_app by5 hyl; have ln6 : (L5 ++ l).length = L5.length + l.length := List.length_append; obtain ⟨L6, hL6⟩ : ∃ L6, L6 = L5 ++ l := ⟨_, rfl⟩; rw [← hL6] at hv6 by6 ln6; have HL6 : Hid (L6 = L5 ++ l) := hL6; clear hL6 hv5 hgrow c0 c1 c2 c3 c4) | (go_at_call 47; refine (iput _ _ _ _ _ _ hv4 by4 hyy (by omega) (by omega)).mono ?_; rintro e w5 ⟨v5, L5, rfl, hL5, ln5, by5, hv5, hb⟩; have sz5 := hb.size; clear c0 c1 c2 c3 c4; replace B := Rw.next B hb; replace k := (hb.block _ z).trans k; replace z := Nat.lt_of_lt_of_le z hb.size; replace h := h.below hb; clear hb; simp at ln5; clear hv4; obtain ⟨c0, c1, c2, c3, c4⟩ := Pf.five k) | (go_at_call 47; refine (iput _ _ _ _ _ _ hv3 by3 htt (by omega) (by omega)).mono ?_; rintro e w4 ⟨v4, L4, rfl, hL4, ln4, by4, hv4, hb⟩; have sz4 := hb.size; clear c0 c1 c2 c3 c4; replace B := Rw.next B hb; replace k := (hb.block _ z).trans k; replace z := Nat.lt_of_lt_of_le z hb.size; replace h := h.below hb; clear hb; simp at ln4; clear hv3; obtain ⟨c0, c1, c2, c3, c4⟩ := Pf.five k) | (go_at_call 47; refine (iput _ _ _ _ _ _ hv2 by2 htag (by omega) (by omega)).mono ?_; rintro e w3 ⟨v3, L3, rfl, hL3, ln3, by3, hv3, hb⟩; have sz3 := hb.size; clear c0 c1 c2 c3 c4; replace B := Rw.next B hb; replace k := (hb.block _ z).trans k; replace z := Nat.lt_of_lt_of_le z hb.size; replace h := h.below hb; clear hb; simp at ln3; clear hv2; obtain ⟨c0, c1, c2, c3, c4⟩ := Pf.five k) | (go_at_call 47; refine (iput _ _ _ _ _ _ hv1 by1 hs6 (by omega) (by omega)).mono ?_; rintro e w2 ⟨v2, L2, rfl, hL2, ln2, by2, hv2, hb⟩; have sz2 := hb.size; clear c0 c1 c2 c3 c4; replace B := Rw.next B hb; replace k := (hb.block _ z).trans k; replace z := Nat.lt_of_lt_of_le z hb.size; replace h := h.below hb; clear hb; simp at ln2; clear hv1; obtain ⟨c0, c1, c2, c3, c4⟩ := Pf.five k) | (go_at_call 47; refine (iput0 _ _ _ hd6).mono ?_; rintro e w1 ⟨v1, L1, rfl, hL1, ln1, by1, hv1, hb⟩; have sz1 := hb.size; clear c0 c1 c2 c3 c4; replace B := Rw.next B hb; replace k := (hb.block _ z).trans k; replace z := Nat.lt_of_lt_of_le z hb.size; replace h := h.below hb; clear hb; simp at ln1; obtain ⟨c0, c1, c2, c3, c4⟩ := Pf.five k) | (go_at_call 46; rw [← hW0]; refine (Pk.implOk_any _ _ _ _ _ _ _ _).mono ?_; rw [hok]; rintro e wa ⟨rfl, hb⟩; replace B := Rw.next B hb; replace k := (hb.block _ z).trans k; replace z := Nat.lt_of_lt_of_le z hb.size; replace h := h.below hb; clear hb; obtain ⟨c0, c1, c2, c3, c4⟩ := Pf.five k; have zw := z))
  go_ret2
  refine ⟨_, rfl, ?_, next B6 hb⟩
  have sB6 := B6.size
  have e8 : L8 = pbL d s t y l := by rw [hL8.out, hC.out, HL6.out, hL5.out, hL4.out, hL3.out, hL2.out, hL1.out]; simp [pbL, mid, tagL, ht]
  rw [← e8]
  exact hasI_mono hv8 (by omega)

end Go.Proofs.Ythgbjbebjjeddaa.Pb

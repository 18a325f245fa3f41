/-
  Contracts of the two PacketBytes: what they answer, on every packet.
-/
import Derived.Test.YtjbjlmaeaajlhaaLw
namespace Go.Proofs.Ytjbjlmaeaajlhaa.Pb
open Go Go.RowKit
open Num Rw Mk Un Put Pl App Pf

/-- The list with a number's digits behind it. -/
def add (l : List Int) (n size : Int) : List Int := l ++ digs n.toNat size.toNat size.toNat
theorem add_len (l : List Int) (n size : Int) : (add l n size).length = l.length + size.toNat := by unfold add; rw [List.length_append, digs_len]
theorem add_byt {l : List Int} (h : Byt l) (n size : Int) : Byt (add l n size) := byt_app h (digs_byt _ _ _)
/-- The sum of bytes. -/
def crcI (l : List Int) : Int := ((Crc.crc l l.length ^^^ 4294967295 : Nat) : Int)
theorem crcI_ok {l : List Int} (h : Byt l) : numOkB (crcI l) 4 = true := by
  have h1 := Crc.xor_lt (Crc.crc_lt l h l.length) (show 4294967295 < 4294967296 by decide)
  unfold numOkB crcI
  simp [pw]
  omega
def tagL (l : List Int) (t : Int) : List Int := if t = -1 then l else add (add l 33024 2) t 2
/-- What stands ahead of the sum. -/
def mid (d s t y : Int) (l : List Int) : List Int := add (tagL (add (add [] d 6) s 6) t) y 2 ++ l
/-- The bytes of a packet. -/
def pbL (d s t y : Int) (l : List Int) : List Int := add (mid d s t y l) (crcI (mid d s t y l)) 4

theorem ok_parts {d s t y : Int} {n : Nat} (h : Pk.okB d s t y n = true) : numOkB d 6 = true ∧ numOkB s 6 = true ∧ -1 ≤ t ∧ t ≤ 4094 ∧ 1536 ≤ y ∧ y ≤ 65535 ∧ ¬ y = 33024 ∧ n ≤ 1500 ∧ numOkB y 2 = true ∧ (¬ t = -1 → numOkB t 2 = true) := by
  unfold Pk.okB at h
  simp only [Bool.and_eq_true, decide_eq_true_eq] at h
  obtain ⟨⟨⟨⟨h1, h2⟩, h3⟩, h4⟩, h5⟩ := h
  simp only [Pk.tagB, Pk.typB, decide_eq_true_eq] at h3 h4
  refine ⟨(Pk.num6 d).trans h1, (Pk.num6 s).trans h2, h3.1, h3.2, h4.1, h4.2.1, h4.2.2, h5, ?_, fun ht => ?_⟩
  · unfold numOkB; simp [pw]; omega
  · unfold numOkB; simp [pw]; omega
theorem ok_tagType : numOkB 33024 2 = true := by decide

/-- A number is written behind: the list by a name. -/
def Put1 (w : World) (l : List Int) (n size : Int) (e : Ending) (w' : World) : Prop :=
  ∃ v L, e = .returned v ∧ Hid (L = add l n size) ∧ L.length = l.length + size.toNat ∧ Byt L ∧ HasI w' w.heap.size v L ∧ Below w.heap.size w w'
def Put2 (w : World) (l : List Int) (n size : Int) (e : Ending) (w' : World) : Prop :=
  ∃ v L, e = .returned (.tuple #[v, .bool true]) ∧ Hid (L = add l n size) ∧ L.length = l.length + size.toNat ∧ Byt L ∧ HasI w' w.heap.size v L ∧ Below w.heap.size w w'

theorem iput0 (n size : Int) (w : World) (hn : numOkB n size = true) : Calls Try.prog 66 #[.slice none 0 0, .int .i64 n, .int .i64 size] w (Put1 w [] n size) := by
  refine (with_nil n size w hn).mono ?_
  rintro e w' ⟨v, rfl, hv, hb⟩
  exact ⟨v, _, rfl, rfl, add_len [] n size, add_byt (l := []) (fun n h => by simp at h) n size, hv, hb⟩
theorem iput (v : Value) (base : Nat) (l : List Int) (n size : Int) (w : World) (h : HasI w base v l) (hy : Byt l) (hn : numOkB n size = true) (h6 : (l.length : Int) + size ≤ 60000) (hs : l.length ≤ 60000) : Calls Try.prog 66 #[v, .int .i64 n, .int .i64 size] w (Put1 w l n size) := by
  refine (with_own v base l n size w h (by omega) hy hn h6).mono ?_
  rintro e w' ⟨v, rfl, hv, hb⟩
  exact ⟨v, _, rfl, rfl, add_len l n size, add_byt hy n size, hv, hb⟩
theorem sput0 (n size : Int) (w : World) (hn : numOkB n size = true) : Calls Try.prog 58 #[.slice none 0 0, .int .i64 n, .int .i64 size] w (Put2 w [] n size) := by
  refine (specPut_own0 [] rfl n size w hn).mono ?_
  rintro e w' ⟨v, rfl, hv, hb⟩
  exact ⟨v, _, rfl, rfl, add_len [] n size, add_byt (l := []) (fun n h => by simp at h) n size, hv, hb⟩
theorem sput (v : Value) (base : Nat) (l : List Int) (n size : Int) (w : World) (h : HasI w base v l) (hy : Byt l) (hn : numOkB n size = true) (h6 : (l.length : Int) + size ≤ 60000) (hs : l.length ≤ 60000) : Calls Try.prog 58 #[v, .int .i64 n, .int .i64 size] w (Put2 w l n size) := by
  refine (specPut_hasI v base l n size w h (by omega) hy hn h6).mono ?_
  rintro e w' ⟨v, rfl, hv, hb⟩
  exact ⟨v, _, rfl, rfl, add_len l n size, add_byt hy n size, hv, hb⟩

/-- A packet's bytes are handed back, in memory of the call's own. -/
def ResY (w : World) (d s t y : Int) (l : List Int) (e : Ending) (w' : World) : Prop :=
  ∃ v, e = .returned (.tuple #[v, .bool true]) ∧ HasI w' w.heap.size v (pbL d s t y l) ∧ Below w.heap.size w w'

end Go.Proofs.Ytjbjlmaeaajlhaa.Pb

/-
  What the law FnPacket needs: bytes with their room, strings of bytes.
-/
import Derived.Test.YtdhidobaghgikaaRt
import Derived.Test.YtdhidobaghgikaaDt
namespace Go.Proofs.Ytdhidobaghgikaa.Fp
open Go Go.RowKit
open Num Rw Mk Un Put Pl App Pf Pb Pr

theorem room {w : World} {B : Nat} {v : Value} {l : List Int} (h : HasI w B v l) (hs : l.length ≤ 4194304) (hy : Byt l) :
    ∃ g cap, v = .slice (some ⟨g, 0, none⟩) l.length cap ∧ B ≤ g ∧ Wt w (some ⟨g, 0, none⟩) g l ∧ l.length ≤ cap := by
  obtain ⟨g, cap, rfl, hg, hw⟩ := hasI_form h hs hy
  rcases h.1.2 with ⟨e, _⟩ | ⟨g', cap', cur, e, _, _, hn, _⟩
  · simp at e
  · injection e with e1 e2 e3
    subst e3
    exact ⟨g, cap, rfl, hg, hw, hn⟩

/-- The bytes are written. -/
def Written (w : World) (L : List Int) (e : Ending) (w' : World) : Prop :=
  ∃ g cap, e = .returned (.tuple #[.slice (some ⟨g, 0, none⟩) L.length cap, .bool true]) ∧ Wt w' (some ⟨g, 0, none⟩) g L ∧ L.length ≤ cap ∧ w.heap.size ≤ g ∧ Below w.heap.size w w'

theorem writes (d s t y : Int) (a : Option Addr) (b off cap : Nat) (l : List Int) (w : World) (h : Rd w a b off l) (hok : Pk.okB d s t y l.length = true) (L : List Int) (hL : L = pbL d s t y l) :
    Calls Try.prog 9 #[.agg #[.int .i64 d, .int .i64 s, .int .i64 t, .int .i64 y, .slice a l.length cap]] w (Written w L) := by
  subst hL
  have hl := (ok_parts hok).2.2.2.2.2.2.2.1
  have hlen := pb_len d s t y l
  have key : ∀ e w', ResY w d s t y l e w' → Written w (pbL d s t y l) e w' := by
    rintro e w' ⟨v, rfl, hv, hb⟩
    obtain ⟨g, cap, rfl, hg, hwt, hc⟩ := room hv (by rw [hlen]; split <;> omega) (pb_byt h.byt d s t y)
    exact ⟨g, cap, rfl, hwt, hc, hg, hb⟩
  by_cases ht : t = -1
  · exact (implPlain d s t y a b off cap l w h hok ht).mono key
  · exact (implTag d s t y a b off cap l w h hok ht).mono key

theorem readsBack (d s t y : Int) (q : List Int) (hy : Byt q) (hok : Pk.okB d s t y q.length = true) (L : List Int) (hL : L = pbL d s t y q) (a : Option Addr) (b off cap : Nat) (w : World) (h : Rd w a b off L) (hc : L.length ≤ cap) :
    Calls Try.prog 11 #[.slice a L.length cap] w (ResC w d s t y 0 q) := by
  subst hL
  exact (Rt.round_trip hy hok).1 a b off cap w h hc
theorem readsNone (a : Option Addr) (cap : Nat) (w : World) : Calls Try.prog 11 #[.slice a 0 cap] w (ResC w 0 0 0 0 1 []) :=
  Rt.no_bytes.1 a 0 0 cap w (Wt.nil w a 0).rd (Nat.zero_le _)

/-- The bytes as a string. -/
def str (l : List Int) : ByteArray := ⟨(l.map (fun x => UInt8.ofNat x.toNat)).toArray⟩
theorem str_inj {l m : List Int} (hl : Byt l) (hm : Byt m) (h : l.map (fun x => UInt8.ofNat x.toNat) = m.map (fun x => UInt8.ofNat x.toNat)) : l = m := by
  have e := congrArg (List.map (fun b : UInt8 => Value.int .u8 (b.toNat : Int))) h
  rw [Bk.toNat_back hl, Bk.toNat_back hm] at e
  have hlen : l.length = m.length := by simpa using congrArg List.length h
  refine List.ext_getElem hlen fun i h1 h2 => ?_
  have e2 : (l.map (Value.int .u8))[i]? = (m.map (Value.int .u8))[i]? := by rw [e]
  simp [h1, h2] at e2
  exact e2
theorem str_ne {l m : List Int} (hl : Byt l) (hm : Byt m) (h : ¬ l = m) : ((str l).toList == (str m).toList) = false := by
  have e1 : (str l).toList = l.map (fun x => UInt8.ofNat x.toNat) := ByteArray.toList_mk _
  have e2 : (str m).toList = m.map (fun x => UInt8.ofNat x.toNat) := ByteArray.toList_mk _
  rw [e1, e2]
  simp only [beq_eq_false_iff_ne, ne_eq]
  exact fun e => h (str_inj hl hm e)
theorem pb_ne {d s t y tag : Int} {q L L2 : List Int} (hok : Pk.okB d s t y q.length = true) (hok2 : Pk.okB d s tag y q.length = true) (hL : L = pbL d s t y q) (hL2 : L2 = pbL d s tag y q) (h : ¬ tag = t) : ¬ L2 = L := by
  intro e
  have h1 := Rt.tag_pb hok
  have h2 := Rt.tag_pb hok2
  rw [← hL] at h1
  rw [← hL2, e, h1] at h2
  exact h h2.symm
theorem conv {w : World} {a : Option Addr} {b off : Nat} {l : List Int} (cap : Nat) (h : Rd w a b off l) : (convert 22 9 (.slice a l.length cap)).run Try.prog w = .ok (.string (str l)) w := Bk.conv_any cap h

end Go.Proofs.Ytdhidobaghgikaa.Fp

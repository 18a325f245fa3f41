/-
  The variables of a rule: the library's Sort, Compact and Clone at texts; the program's closure that gathers.
-/
import Derived.Test.YtmpobkbjjnafmaaXc
import Derived.Test.YtmpobkbjjnafmaaHn
import Derived.Test.YtmpobkbjjnafmaaShelfs
import Derived.Sort.Grow
import Derived.Lib.OwnBridge
import Derived.Sort.OwnSorted
import Derived.Sort.EveryDepth
import Derived.Shelf.Slices.In.SortNone
namespace Go.Proofs.Ytmpobkbjjnafmaa.Xd
set_option maxRecDepth 8000
set_option linter.unusedSimpArgs false
set_option linter.unusedVariables false
open Go Go.ChangeShapes Go.WideShapes Go.RowKit
open Num Pl
open Pm (Tm tm0 Lm lm0 Rm Atm kdTm kdLm kdRm Rd Sl told RuL LtL AtL ruleB atomB litB cellsTm cellsLm)
open Xa (Sg put putAll srt)
open Xb (OS tl tl_len tl_app)
open Xc (varsT varsK allV varsR)

theorem enc_tl (T : List ByteArray) : (tl T).map encStr = T.map Value.string := by
  unfold tl
  rw [List.map_map]
  apply List.map_congr_left
  intro x _
  simp [encStr, Lib.toList_data]
/-- Texts out of their letters. -/
def bk (L : List Sg) : List ByteArray := L.map fun s => ⟨s.toArray⟩
theorem bk_len (L : List Sg) : (bk L).length = L.length := by simp [bk]
theorem tl_bk (L : List Sg) : tl (bk L) = L := by
  unfold tl bk
  rw [List.map_map]
  conv => rhs; rw [← List.map_id L]
  apply List.map_congr_left
  intro x _
  simp [Lib.toList_data]
theorem enc_bk (L : List Sg) : L.map encStr = (bk L).map Value.string := by rw [← enc_tl, tl_bk]
theorem os_enc {w : World} {B : Nat} {v : Value} {L : List Sg} (h : w.ownsRow B 9 1 v L.length (L.map encStr)) : OS w B v (bk L) := by
  unfold OS; rw [bk_len, ← enc_bk]; exact h
theorem enc_os {w : World} {B : Nat} {v : Value} {T : List ByteArray} (h : OS w B v T) : w.ownsRow B 9 1 v (tl T).length ((tl T).map encStr) := by
  rw [tl_len, enc_tl]; exact h

theorem sort_none (p : Option Addr) (cap : Nat) (w : World) : Calls Try.prog 34 #[.slice p 0 cap] w fun e w' => e = .returned (.tuple #[]) ∧ w' = w :=
  calls_of_every_depth fun D => AnyS.slices_Sort_string_none_in Try.lays190 D p cap w
theorem sort_any {B : Nat} {v : Value} {T : List ByteArray} {w : World} (h : OS w B v T) (hl : T.length ≤ 100000) :
    Calls Try.prog 34 #[v] w fun e w' => e = .returned (.tuple #[]) ∧ ∃ T', OS w' B v T' ∧ tl T' = srt (tl T) ∧ T'.length = T.length ∧ w.grownBy w' v.ownBlock := by
  by_cases hv : v = .slice none 0 0
  · subst hv
    have hT : T = [] := by
      rcases h.2 with ⟨_, e⟩ | ⟨g, cap, cur, e, _⟩
      · exact List.eq_nil_of_length_eq_zero e
      · cases e
    subst hT
    refine (sort_none none 0 w).mono ?_
    rintro e w' ⟨rfl, rfl⟩
    exact ⟨rfl, [], h, by simp [srt, tl], rfl, ⟨rfl, rfl, rfl, Nat.le_refl _, fun _ _ _ => rfl⟩⟩
  · obtain ⟨g, cap, rfl, hbg, hgl, hcap, hcm, hlen, hH⟩ := Lib.holds_of_ownsRow (enc_os h) hv
    have hl2 : (srt (tl T)).length = (tl T).length := Xa.srt_len _
    have hle : (tl T).length ≤ 100000 := by rw [tl_len]; exact hl
    refine (Try.slices_Sort_string g 0 cap (tl T) w hH hgl (by omega)).mono ?_
    rintro e w' ⟨rfl, n, os, rfl⟩
    refine ⟨rfl, bk (srt (tl T)), ?_, tl_bk _, by rw [bk_len, hl2, tl_len], grownBy_sorted _⟩
    have h2 := enc_os h
    rcases h2.2 with ⟨h0, _⟩ | ⟨g', cap', cur, e0, hb, hg, h1, h2, h3, h4⟩
    · cases h0
    injection e0 with e1 _ e3
    injection e1 with e1
    injection e1 with e1
    subst e1 e3
    have q := ownsRow_sorted (n := n) (os := os) (ts := srt (tl T)) hl2 hb hg h1 h2 h3
    have q2 : (Sort.grow (Sort.putRow encStr (Sort.ahead w n) g 0 (srt (tl T)).toArray) os).ownsRow B 9 1 (.slice (some ⟨g, 0, none⟩) (tl T).length cap) (srt (tl T)).length ((srt (tl T)).map encStr) := by rw [hl2]; exact q
    exact os_enc q2
theorem compact_any {B : Nat} {v : Value} {T : List ByteArray} {w : World} (h : OS w B v T) (hl : T.length ≤ 100000) :
    Calls Try.prog 35 #[v] w fun e w' => ∃ v' T', e = .returned v' ∧ OS w' B v' T' ∧ tl T' = Lib.compact (tl T) ∧ T'.length ≤ T.length ∧ ∀ n W, n ≤ B → Below n W w → Below n W w' := by
  by_cases hv : v = .slice none 0 0
  · subst hv
    have hT : T = [] := by
      rcases h.2 with ⟨_, e⟩ | ⟨g, cap, cur, e, _⟩
      · exact List.eq_nil_of_length_eq_zero e
      · cases e
    subst hT
    refine (Try.slices_Compact_string_empty none 0 w).mono ?_
    rintro e w' ⟨rfl, rfl⟩
    exact ⟨_, [], rfl, h, rfl, Nat.le_refl _, fun _ _ _ hb => hb⟩
  · obtain ⟨g, cap, rfl, hbg, hgl, hcap, hcm, hlen, hH⟩ := Lib.holds_of_ownsRow (enc_os h) hv
    have hle : (tl T).length ≤ 100000 := by rw [tl_len]; exact hl
    have hc := Lib.compact_length_le (tl T)
    refine (Try.slices_Compact_string g 0 cap (tl T) w hH (by omega) hcap).mono ?_
    rintro e w' ⟨rfl, q, rfl⟩
    have hq := Lib.ownsRow_putRow (q := q) (k := (Lib.compact (tl T)).length) (ys := Lib.compact (tl T) ++ List.replicate ((tl T).length - (Lib.compact (tl T)).length) []) (enc_os h) (by simp; omega) hc
    rw [List.take_left] at hq
    exact ⟨_, bk (Lib.compact (tl T)), rfl, os_enc hq, tl_bk _, by rw [bk_len]; rw [tl_len] at hc; exact hc, fun n W hn hb => Lib.below_putRow hb (Nat.le_trans hn hbg)⟩
theorem clone_any (s : ByteArray) (w : World) (hs : s.size ≤ 100000) : Calls Try.prog 33 #[.string s] w fun e w' => e = .returned (.string s) ∧ Below w.heap.size w w' := by
  go_enter Try.func33, Try.ntmps33
  go_wp2_with (go_at_call 60; refine (Try.stringslite_Clone s w (by omega)).mono ?_; rintro e w1 ⟨rfl, hb⟩)
  go_ret
  exact ⟨rfl, hb⟩

/-- What stands while a list grows that lies in box g: all but the box and the list's own row. -/
structure Stab (wr : World) (g : Nat) (v : Value) (w' : World) : Prop where
  size : wr.heap.size ≤ w'.heap.size
  block : ∀ k, k < wr.heap.size → k ≠ g → some k ≠ v.ownBlock → w'.heap[k]? = wr.heap[k]?
theorem Stab.refl (wr : World) (g : Nat) (v : Value) : Stab wr g v wr.drew := ⟨Nat.le_refl _, fun _ _ _ _ => rfl⟩
theorem Stab.below {wr w1 w2 : World} {g : Nat} {v : Value} (h : Stab wr g v w1) (hb : Below w1.heap.size w1 w2) : Stab wr g v w2 :=
  ⟨Nat.le_trans h.size hb.size, fun k hk h1 h2 => (hb.block k (Nat.lt_of_lt_of_le hk h.size)).trans (h.block k hk h1 h2)⟩
theorem Stab.grown {wr w1 w2 : World} {g : Nat} {v : Value} (h : Stab wr g v w1) (hg : w1.grownBy w2 v.ownBlock) : Stab wr g v w2 :=
  ⟨Nat.le_trans h.size hg.size, fun k hk h1 h2 => (hg.block k (Nat.lt_of_lt_of_le hk h.size) h2).trans (h.block k hk h1 h2)⟩
theorem Stab.set {wr w1 : World} {g i : Nat} {v u : Value} (h : Stab wr g v w1) : Stab wr g v (w1.setCell ⟨g, i, none⟩ u) :=
  ⟨by simpa using h.size, fun k hk h1 h2 => (Below.heap_setCell _ _ _ _ (by exact h1)).trans (h.block k hk h1 h2)⟩
theorem exec_oneS {o : Oper} {a : Act} {w : World} {x : Operand} {u : ByteArray} (ho : o.op = .buildSlice 37 1 #[(0, x)]) (hx : a.eval x = .string u) : (execOp a.eval o).run Try.prog w = .ok (.value (.slice (some ⟨w.heap.size, 0, none⟩) 1 1)) (w.alloc (.cells #[.string u] 9)) := by
  unfold execOp
  simp only [ho, List.map_toArray, List.map_cons, List.map_nil, hx]
  kernel_rfl
theorem one_set {w : World} {g : Nat} {u x : Value} {t : TypeId} (h : w.heap[g]? = some (.cells #[u] t (0, 0))) : (w.setCell ⟨g, 0, none⟩ x).heap[g]? = some (.cells #[x] t (0, 0)) := by
  simp [World.setCell, Array.getElem?_modify, h]
theorem os_ne {w : World} {B x : Nat} {v : Value} {T : List ByteArray} (h : OS w B v T) {cs : Array Value} {t : TypeId} {fr : Nat × Nat} (k : w.heap[x]? = some (.cells cs t fr)) (ht : t ≠ 9) : some x ≠ v.ownBlock := by
  intro q
  rcases h.2 with ⟨rfl, _⟩ | ⟨g1, cap, cur, rfl, _, h1, _⟩
  · cases q
  · simp only [Value.ownBlock, Option.some.injEq] at q
    subst q
    rw [k] at h1
    simp only [Option.some.injEq, Obj.cells.injEq] at h1
    exact ht h1.2.1
theorem os_slice {w : World} {B : Nat} {v : Value} {T : List ByteArray} (h : OS w B v T) : ∃ a n c, v = .slice a n c := by
  rcases h.2 with ⟨rfl, _⟩ | ⟨g1, cap, cur, rfl, _⟩
  · exact ⟨_, _, _, rfl⟩
  · exact ⟨_, _, _, rfl⟩
theorem os_app {w : World} {B R : Nat} {v : Value} {T : List ByteArray} {x : ByteArray} (h : OS w B v T) (hT : w.heap[R]? = some (.cells #[.string x] 9 (0, 0))) (hB : B ≤ w.heap.size) (hl : T.length ≤ 100000) :
    ∃ v' w', (Builtin.append_ #[37, 37] 37 #[v, .slice (some ⟨R, 0, none⟩) 1 1]).run Try.prog w = .ok v' w' ∧ OS w' B v' (T ++ [x]) ∧ w.grownBy w' v.ownBlock := by
  obtain ⟨i0, hi, hz0, hz1, hz2⟩ := info_parts Xb.infoSt
  have p0 := Pl.one hT
  obtain ⟨v', w', hrun, g1, g2, _, _⟩ := run_append_own_at (P := Try.prog) (w := w) B 37 37 9 i0 _ 1 16 Try.underlying37 hi hz0 hz1 hz2 rfl (by decide) v T.length (T.map Value.string) h ⟨R, 0, none⟩ 1 1 [.string x] rfl
    (fun j u hj => by
      rw [add_eq, Nat.zero_add]
      match j, hj with
      | 0, hj => obtain rfl : _ = u := Option.some.inj hj; exact p0
      | j + 1, hj => cases hj)
    (fun u hu => by obtain rfl := List.mem_singleton.1 hu; rfl)
    (by unfold maxLen; omega) (by omega) hB
  exact ⟨v', w', hrun, by unfold OS; rw [List.map_append, List.length_append]; exact g1, g2⟩

end Go.Proofs.Ytmpobkbjjnafmaa.Xd

/-
  Draws that make no new block: a number below n, drawn while new blocks lie on top; what is known of the cursor.
-/
import Derived.Test.YtjbjlmaeaajlhaaDrawb
import Derived.Test.YtjbjlmaeaajlhaaHo
namespace Go.Proofs.Ytjbjlmaeaajlhaa.Dr
open Go Go.RowKit
open Num Rw Mk Un Put Pl Pf

theorem hid_mk {p : Prop} (h : p) : Hid p := h
theorem cur_set {w : World} {B g p o : Nat} {a : Option Addr} {b off cap : Nat} {l : List Int} {u : Value} (h : Cur w g a b off cap l) (hp : B ≤ p) (hg : g < B) (hb : l.length = 0 ∨ b < B) : Cur (w.setCell ⟨p, o, none⟩ u) g a b off cap l :=
  cur_keep (B := B) h (fun k hk => Below.heap_setCell w ⟨p, o, none⟩ u k (fun e => by simp at e; omega)) hg hb
theorem cur_alloc {w : World} {g : Nat} {a : Option Addr} {b off cap : Nat} {l : List Int} (h : Cur w g a b off cap l) (o : Obj) : Cur (w.alloc o) g a b off cap l :=
  cur_keep (B := w.heap.size) h (fun k hk => Below.heap_alloc w o k hk) (cur_lt h) (rd_lt h.rd)
theorem cur_drew {w : World} {g : Nat} {a : Option Addr} {b off cap : Nat} {l : List Int} (h : Cur w g a b off cap l) : Cur w.drew g a b off cap l :=
  cur_keep (B := w.heap.size) h (fun _ _ => rfl) (cur_lt h) (rd_lt h.rd)
theorem cur_pop {w : World} {g : Nat} {a : Option Addr} {b off cap : Nat} {l : List Int} {o : Obj} (h : Cur (w.alloc o) g a b off cap l) (hg : g < w.heap.size) (hb : l.length = 0 ∨ b < w.heap.size) : Cur w g a b off cap l :=
  cur_keep (B := w.heap.size) h (fun k hk => (Below.heap_alloc w o k hk).symm) hg hb
theorem only_set {g p o : Nat} {w w1 : World} {u : Value} (h : Only g w w1) (hp : w.heap.size ≤ p) : Only g w (w1.setCell ⟨p, o, none⟩ u) :=
  ⟨h.os, h.tape, h.output, by simpa using h.size, fun k hk hne => (Below.heap_setCell w1 _ u k (fun e => by simp at e; omega)).trans (h.block k hk hne)⟩
theorem only_undrew {g : Nat} {w w1 : World} (h : Only g w.drew w1) : Only g w w1 := ⟨h.os, h.tape, h.output, h.size, h.block⟩
theorem k_of {g k : Nat} {w w' : World} (h : Only g w w') (hk : k < w.heap.size) (hne : k ≠ g) : w'.heap[k]? = w.heap[k]? := h.block k hk (by simpa using hne)
theorem wt_of {g : Nat} {w w' : World} {a : Option Addr} {b : Nat} {l : List Int} (h : Only g w w') (hr : Wt w a b l) (hne : b ≠ g) : Wt w' a b l := wt_only h hr (.inr hne)

/-- What lay on top lies on top still. -/
theorem pop {w' V : World} {o : Obj} {g : Nat} (hO : Only g (V.alloc o) w') (hz : w'.heap.size = (V.alloc o).heap.size) (hg : g < V.heap.size) : ∃ V', w' = V'.alloc o ∧ V'.heap.size = V.heap.size ∧ Only g V V' := by
  have hz1 : w'.heap.size = V.heap.size + 1 := by rw [hz]; simp
  have hlast : w'.heap[V.heap.size]? = some o := (k_of hO (by simp) (by omega)).trans (heap_alloc_new V o)
  have hh : w'.heap = w'.heap.pop.push o := by
    apply Array.ext_getElem?
    intro i
    by_cases hi : i < V.heap.size
    · rw [Array.getElem?_push_lt (by simp; omega)]
      simp <;> omega
    · by_cases e : i = V.heap.size
      · subst e
        rw [hlast]
        have : w'.heap.pop.size = V.heap.size := by simp; omega
        rw [← this, Array.getElem?_push_size]
      · rw [Array.getElem?_eq_none (by omega), Array.getElem?_eq_none (by simp; omega)]
  refine ⟨{ w' with heap := w'.heap.pop }, ?_, by simp; omega, ⟨hO.os, hO.tape, hO.output, by simp; omega, fun k hk hne => ?_⟩⟩
  · unfold World.alloc
    simp only
    rw [← hh]
  · have h1 := hO.block k (by simp; omega) hne
    rw [Below.heap_alloc V o k hk] at h1
    rw [← h1]
    show w'.heap.pop[k]? = w'.heap[k]?
    rw [Array.getElem?_pop, if_pos (by omega)]

set_option maxHeartbeats 2000000 in
theorem byte_z (g : Nat) (a : Option Addr) (b off cap : Nat) (l : List Int) (w : World) (h : Cur w g a b off cap l) :
    Calls Try.prog 74 #[.pointer (some ⟨g, 0, none⟩)] w fun e w' => ∃ x : Int, e = .returned (.int .i64 x) ∧ 0 ≤ x ∧ x ≤ 255 ∧ Cur w' g a b off cap l ∧ Only g w w' ∧ w'.heap.size = w.heap.size := by
  obtain ⟨⟨i, hh, hblk, hi0, hil⟩, hrd, hne⟩ := h
  have c0 := three0 hblk
  have c1 := three1 hblk
  have c2 := three2 hblk
  have f1 := threef hblk 1
  have f2 := threef hblk 2
  have hs := hrd.size
  by_cases hlt : i < (l.length : Int)
  · obtain ⟨k, rfl⟩ : ∃ k : Nat, i = k := ⟨i.toNat, by omega⟩
    have hkl : k < l.length := by omega
    have hb := hrd.head (by omega)
    subst hb
    have g0 := hrd.cell k hkl
    have hbg : b ≠ g := by omega
    go_enter Try.func74, Try.ntmps74
    go_wp2
    generalize wrap64 (wrap64 (hh * 6364136223846793005) + 1442695040888963407) = h1
    have hb1 := three_set (o := 2) hblk (.int .i64 h1)
    simp at hb1
    have ho1 : Only g w (w.setCell ⟨g, 2, none⟩ (.int .i64 h1)) := (Only.refl g w).set _
    have hz1 : Hid ((w.setCell ⟨g, 2, none⟩ (.int .i64 h1)).heap.size = w.heap.size) := by unfold Hid; simp
    have hrd1 := rd_only ho1 hrd hne
    clear hblk c0 c1 c2 f1 f2 g0 hrd
    generalize w.setCell ⟨g, 2, none⟩ (.int .i64 h1) = w1 at *
    have c0 := three0 hb1
    have c1 := three1 hb1
    have c2 := three2 hb1
    have f1 := threef hb1 1
    have g0 := hrd1.cell k hkl
    go_quiet (fail)
    go_wp2
    go_quiet (fail)
    go_wp2
    go_quiet (fail)
    go_wp2
    go_ret
    exact ⟨_, rfl, (and255 _).1, (and255 _).2, ⟨⟨(k : Int) + 1, h1, by simpa using three_set (w := w1.drewN _) (o := 1) hb1 (.int .i64 ((k : Int) + 1)), by omega, by omega⟩, rd_only ((Only.refl g (w1.drewN _)).set _) (rd_drewN hrd1 _) hne, hne⟩, (only_drewN ho1 _).set _, by simpa using hz1.out⟩
  · go_enter Try.func74, Try.ntmps74
    go_wp2
    generalize wrap64 (wrap64 (hh * 6364136223846793005) + 1442695040888963407) = h1
    have hb1 := three_set (o := 2) hblk (.int .i64 h1)
    simp at hb1
    have ho1 : Only g w (w.setCell ⟨g, 2, none⟩ (.int .i64 h1)) := (Only.refl g w).set _
    have hz1 : Hid ((w.setCell ⟨g, 2, none⟩ (.int .i64 h1)).heap.size = w.heap.size) := by unfold Hid; simp
    have hrd1 := rd_only ho1 hrd hne
    clear hblk c0 c1 c2 f1 f2 hrd
    generalize w.setCell ⟨g, 2, none⟩ (.int .i64 h1) = w1 at *
    have c0 := three0 hb1
    have c1 := three1 hb1
    have c2 := three2 hb1
    go_quiet (fail)
    go_wp2
    go_quiet (fail)
    go_wp2
    go_ret
    exact ⟨_, rfl, (and255 _).1, (and255 _).2, ⟨⟨i, h1, hb1, by omega, by omega⟩, rd_drewN (rd_drewN hrd1 _) _, hne⟩, only_drewN (only_drewN ho1 _) _, by simpa using hz1.out⟩

/-- A number below n, n above 0: no block is made. -/
theorem below_z (g : Nat) (a : Option Addr) (b off cap : Nat) (l : List Int) (n : Int) (w : World) (h : Cur w g a b off cap l) (hn : 1 ≤ n) (hn6 : n ≤ 4294967296) :
    Calls Try.prog 70 #[.pointer (some ⟨g, 0, none⟩), .int .i64 n] w fun e w' => ∃ x : Int, e = .returned (.int .i64 x) ∧ 0 ≤ x ∧ x < n ∧ Cur w' g a b off cap l ∧ Only g w w' ∧ w'.heap.size = w.heap.size := by
  have h0 : ¬ n ≤ 0 := by omega
  by_cases hs : n ≤ 256
  · go_enter Try.func70, Try.ntmps70
    go_wp2_with (go_at_call 74; refine (byte_z _ _ _ _ _ _ _ h).mono ?_; rintro e w1 ⟨x, rfl, x0, x1, hc1, ho1, hz1⟩)
    go_ret
    exact ⟨_, rfl, Int.emod_nonneg _ (by omega), Int.emod_lt_of_pos _ (by omega), hc1, ho1, hz1⟩
  · go_enter Try.func70, Try.ntmps70
    go_wp2_with (go_at_call 74; refine (byte_z _ _ _ _ _ _ _ h).mono ?_; rintro e w1 ⟨x, rfl, x0, x1, hc1, ho1, hz1⟩; replace hz1 := hid_mk hz1)
    go_wp2_with (go_at_call 74; refine (byte_z _ _ _ _ _ _ _ hc1).mono ?_; rintro e w2 ⟨y, rfl, y0, y1, hc2, ho2, hz2⟩; replace hz2 := hid_mk hz2)
    go_wp2_with (go_at_call 74; refine (byte_z _ _ _ _ _ _ _ hc2).mono ?_; rintro e w3 ⟨z, rfl, z0, z1, hc3, ho3, hz3⟩; replace hz3 := hid_mk hz3)
    go_wp2_with (go_at_call 74; refine (byte_z _ _ _ _ _ _ _ hc3).mono ?_; rintro e w4 ⟨v, rfl, v0, v1, hc4, ho4, hz4⟩; replace hz4 := hid_mk hz4)
    go_ret
    exact ⟨_, rfl, Int.emod_nonneg _ (by omega), Int.emod_lt_of_pos _ (by omega), hc4, only_trans (only_trans (only_trans ho1 ho2) ho3) ho4, by rw [hz4.out, hz3.out, hz2.out, hz1.out]⟩

/-- The same while o lies on top; while o1 and o2 do. -/
def At (g : Nat) (a : Option Addr) (b off cap : Nat) (l : List Int) (n : Int) (N : Nat) (V : World) (f : World → World) (e : Ending) (w' : World) : Prop :=
  ∃ (x : Int) (V' : World), e = .returned (.int .i64 x) ∧ 0 ≤ x ∧ x < n ∧ w' = f V' ∧ Cur V' g a b off cap l ∧ Only g V V' ∧ V'.heap.size = N

theorem at0 {g : Nat} {a : Option Addr} {b off cap : Nat} {l : List Int} {N : Nat} (V : World) (n : Int) (h : Cur V g a b off cap l) (hN : V.heap.size = N) (hn : 1 ≤ n) (hn6 : n ≤ 4294967296) :
    Calls Try.prog 70 #[.pointer (some ⟨g, 0, none⟩), .int .i64 n] V (At g a b off cap l n N V fun V' => V') := by
  refine (below_z g a b off cap l n V h hn hn6).mono ?_
  rintro e w' ⟨x, rfl, x0, x1, hC, hO, hz⟩
  exact ⟨x, w', rfl, x0, x1, rfl, hC, hO, hz.trans hN⟩
theorem at1 {g : Nat} {a : Option Addr} {b off cap : Nat} {l : List Int} {N : Nat} (V : World) (o : Obj) (n : Int) (h : Cur V g a b off cap l) (hN : V.heap.size = N) (hn : 1 ≤ n) (hn6 : n ≤ 4294967296) :
    Calls Try.prog 70 #[.pointer (some ⟨g, 0, none⟩), .int .i64 n] (V.alloc o) (At g a b off cap l n N V fun V' => V'.alloc o) := by
  refine (below_z g a b off cap l n _ (cur_alloc h o) hn hn6).mono ?_
  rintro e w' ⟨x, rfl, x0, x1, hC, hO, hz⟩
  have hg := cur_lt h
  have hb := rd_lt h.rd
  obtain ⟨V', rfl, hz', hO'⟩ := pop hO hz hg
  exact ⟨x, V', rfl, x0, x1, rfl, cur_pop hC (by omega) (by omega), hO', hz'.trans hN⟩
theorem at2 {g : Nat} {a : Option Addr} {b off cap : Nat} {l : List Int} {N : Nat} (V : World) (o1 o2 : Obj) (n : Int) (h : Cur V g a b off cap l) (hN : V.heap.size = N) (hn : 1 ≤ n) (hn6 : n ≤ 4294967296) :
    Calls Try.prog 70 #[.pointer (some ⟨g, 0, none⟩), .int .i64 n] ((V.alloc o1).alloc o2) (At g a b off cap l n N V fun V' => (V'.alloc o1).alloc o2) := by
  refine (at1 (V.alloc o1) o2 n (cur_alloc h o1) rfl hn hn6).mono ?_
  rintro e w' ⟨x, V1, rfl, x0, x1, rfl, hC, hO, hz⟩
  have hg := cur_lt h
  have hb := rd_lt h.rd
  obtain ⟨V', rfl, hz', hO'⟩ := pop hO hz hg
  exact ⟨x, V', rfl, x0, x1, rfl, cur_pop hC (by omega) (by omega), hO', hz'.trans hN⟩
theorem at0d {g : Nat} {a : Option Addr} {b off cap : Nat} {l : List Int} {N : Nat} (V : World) (n : Int) (h : Cur V g a b off cap l) (hN : V.heap.size = N) (hn : 1 ≤ n) (hn6 : n ≤ 4294967296) :
    Calls Try.prog 70 #[.pointer (some ⟨g, 0, none⟩), .int .i64 n] V.drew (At g a b off cap l n N V fun V' => V') := by
  refine (at0 V.drew n (cur_drew h) hN hn hn6).mono ?_
  rintro e w' ⟨x, V', rfl, x0, x1, hw, hC, hO, hz⟩
  exact ⟨x, V', rfl, x0, x1, hw, hC, only_undrew hO, hz⟩
theorem at1d {g : Nat} {a : Option Addr} {b off cap : Nat} {l : List Int} {N : Nat} (V : World) (o : Obj) (n : Int) (h : Cur V g a b off cap l) (hN : V.heap.size = N) (hn : 1 ≤ n) (hn6 : n ≤ 4294967296) :
    Calls Try.prog 70 #[.pointer (some ⟨g, 0, none⟩), .int .i64 n] (V.alloc o).drew (At g a b off cap l n N V fun V' => V'.alloc o) := by
  refine (at1 V.drew o n (cur_drew h) hN hn hn6).mono ?_
  rintro e w' ⟨x, V', rfl, x0, x1, rfl, hC, hO, hz⟩
  exact ⟨x, V', rfl, x0, x1, rfl, hC, only_undrew hO, hz⟩
theorem at2d {g : Nat} {a : Option Addr} {b off cap : Nat} {l : List Int} {N : Nat} (V : World) (o1 o2 : Obj) (n : Int) (h : Cur V g a b off cap l) (hN : V.heap.size = N) (hn : 1 ≤ n) (hn6 : n ≤ 4294967296) :
    Calls Try.prog 70 #[.pointer (some ⟨g, 0, none⟩), .int .i64 n] ((V.alloc o1).alloc o2).drew (At g a b off cap l n N V fun V' => (V'.alloc o1).alloc o2) := by
  refine (at2 V.drew o1 o2 n (cur_drew h) hN hn hn6).mono ?_
  rintro e w' ⟨x, V', rfl, x0, x1, rfl, hC, hO, hz⟩
  exact ⟨x, V', rfl, x0, x1, rfl, hC, only_undrew hO, hz⟩

end Go.Proofs.Ytjbjlmaeaajlhaa.Dr

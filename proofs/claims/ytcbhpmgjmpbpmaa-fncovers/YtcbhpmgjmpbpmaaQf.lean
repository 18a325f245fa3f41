/-
  Contracts laid together (Tg, Lw, Gd, Pr, Hp, Em, Ep, Gp, Gs, Gq, Gr, Gu, Gv, Gw).
-/
import Derived.Test.YtcbhpmgjmpbpmaaQe
import Derived.WalkLawsBesides
import Derived.Deep.RegionHeld3
import Derived.Laws.CopyOwn
import Derived.Maps.AppendAt
import Derived.Deep.RegionWith
import Derived.Lib.AppendZeros
import Derived.WalkMore
import Derived.Deep.LoopGhost
namespace Go.Proofs.Ytcbhpmgjmpbpmaa.Tg
open Go Go.RowKit
set_option maxRecDepth 8000
open Num Rw Mk Un Put Pl App Pf

/-- A packet's cells. -/
theorem wt_set {w : World} {a : Option Addr} {g : Nat} {l : List Int} {ad : Addr} {u : Value} (h : Wt w a g l) (hne : ¬ ad.block = g) : Wt (w.setCell ad u) a g l :=
  ⟨h.head, fun i hi => (World.cell?_setCell_other _ _ _ _ (by intro q; apply hne; rw [q])).trans (h.cell i hi), fun i hi => by simpa using h.free i hi, h.size, h.byt⟩

/-- What 'Tagged' answers. -/
def Yes (w : World) (d s t y : Int) (l : List Int) (e : Ending) (w' : World) : Prop :=
  ∃ a g cap, e = .returned (.tuple #[.agg #[.int .i64 d, .int .i64 s, .int .i64 t, .int .i64 y, .slice a l.length cap], .bool true]) ∧ Wt w' a g l ∧ w.heap.size ≤ g ∧ (a = none → cap = 0) ∧ Below w.heap.size w w'
def No (w : World) (e : Ending) (w' : World) : Prop :=
  e = .returned (.tuple #[.agg #[.int .i64 0, .int .i64 0, .int .i64 0, .int .i64 0, .slice none 0 0], .bool false]) ∧ Below w.heap.size w w'

end Go.Proofs.Ytcbhpmgjmpbpmaa.Tg
namespace Go.Proofs.Ytcbhpmgjmpbpmaa.Lw
open Go Go.RowKit
set_option maxRecDepth 8000
open Num Rw Mk Un Put Pl App Pf

theorem mark_nil (a : Option Addr) (cap : Nat) (w : World) :
    Calls Try.prog 27 #[.slice a 0 cap, .int .i64 1] w fun e w' => e = .returned (.int .i64 1) ∧ w' = w := by
  go_enter Try.func27, Try.ntmps27
  go_wp2
  go_loop [1, 5] (fun q i => i = .int .i64 0 ∧ q = .int .i64 1) (fun _ _ => 0)
  case atStart => exact ⟨rfl, rfl⟩
  case round =>
    obtain ⟨rfl, rfl⟩ := hrel
    go_wp2
    go_ret
    exact ⟨rfl, rfl⟩

theorem wt_zero {w' : World} {a : Option Addr} {g : Nat} {m : List Int} (hm : m.length = 0) : Wt w' a g m := by
  obtain rfl := List.eq_nil_of_length_eq_zero hm
  exact Wt.nil _ _ _

theorem k_only {g n k : Nat} {w w' : World} (ho : Only g w w') (h0 : n = 0 → Below w.heap.size w w') (hk : k < w.heap.size) (hne : n = 0 ∨ k ≠ g) : w'.heap[k]? = w.heap[k]? := by
  rcases hne with h | h
  · exact (h0 h).block k hk
  · exact ho.block k hk (by simpa using h)

theorem below_of_only {g n B : Nat} {w0 w w' : World} (hb : Below B w0 w) (hB : B ≤ w.heap.size) (ho : Only g w w') (h0 : n = 0 → Below w.heap.size w w') (hg : n = 0 ∨ B ≤ g) : Below B w0 w' := by
  rcases hg with h | h
  · exact hb.trans ((h0 h).mono hB)
  · exact ho.below hb hB h

theorem rd_onlyN {g n : Nat} {w w' : World} {a : Option Addr} {b off : Nat} {l : List Int} (ho : Only g w w') (h0 : n = 0 → Below w.heap.size w w') (hr : Rd w a b off l) (hne : n = 0 ∨ l.length = 0 ∨ b ≠ g) : Rd w' a b off l := by
  rcases hne with h | h
  · exact hr.below (h0 h)
  · exact rd_only ho hr h
theorem wt_onlyN {g n : Nat} {w w' : World} {a : Option Addr} {b : Nat} {l : List Int} (ho : Only g w w') (h0 : n = 0 → Below w.heap.size w w') (hr : Wt w a b l) (hne : n = 0 ∨ l.length = 0 ∨ b ≠ g) : Wt w' a b l := by
  rcases hne with h | h
  · exact hr.below (h0 h)
  · exact wt_only ho hr h
theorem rd_lt {w : World} {a : Option Addr} {b off : Nat} {l : List Int} (h : Rd w a b off l) : l.length = 0 ∨ b < w.heap.size := by
  rcases Nat.eq_zero_or_pos l.length with h0 | h0
  · exact .inl h0
  · exact .inr (World.block_lt_of_cell? _ _ (h.cell 0 h0))

/-- A packet and a bool are handed back, the bytes in memory of the call's own. -/
def ResB (w : World) (d s t y : Int) (ok : Bool) (l : List Int) (e : Ending) (w' : World) : Prop :=
  ∃ a g cap, e = .returned (.tuple #[.agg #[.int .i64 d, .int .i64 s, .int .i64 t, .int .i64 y, .slice a l.length cap], .bool ok]) ∧ Wt w' a g l ∧ w.heap.size ≤ g ∧ (a = none → cap = 0) ∧ Below w.heap.size w w'

theorem res_yes {w w' : World} {d s t y : Int} {l : List Int} {e : Ending} (h : Tg.Yes w d s t y l e w') : ResB w d s t y true l e w' := h
theorem res_no {w w' : World} {e : Ending} (h : Tg.No w e w') : ResB w 0 0 0 0 false [] e w' :=
  ⟨none, w.heap.size, 0, h.1, Wt.nil _ _ _, Nat.le_refl _, fun _ => rfl, h.2⟩

end Go.Proofs.Ytcbhpmgjmpbpmaa.Lw
namespace Go.Proofs.Ytcbhpmgjmpbpmaa.Gd
open Go Go.RowKit
set_option maxRecDepth 8000
open Num Pl Rw Mk Mf

/-- n marks from k0 on, as bytes. -/
def marksB (k0 : Int) (n : Nat) : List Int := (List.range n).map (fun i : Nat => (k0 + (i : Int)) % 256)
theorem marksB_len (k0 : Int) (n : Nat) : (marksB k0 n).length = n := by simp [marksB]
theorem marksB_at (k0 : Int) (n i : Nat) (h : i < n) : (marksB k0 n).getD i 0 = (k0 + (i : Int)) % 256 := by simp [marksB, List.getD, h]
theorem marksB_byt (k0 : Int) (n : Nat) : Byt (marksB k0 n) := by
  intro x hx
  simp only [marksB, List.mem_map] at hx
  obtain ⟨i, _, rfl⟩ := hx
  omega
def mixedB (k0 : Int) (l : List Int) (k i : Nat) : Int := if i < k then (k0 + (i : Int)) % 256 else l.getD i 0

theorem rd_kept {g n : Nat} {w w' : World} {a : Option Addr} {b off : Nat} {l : List Int} (hk : Kept g n w w') (hr : Rd w a b off l) (hne : l.length = 0 ∨ n = 0 ∨ b ≠ g) : Rd w' a b off l := by
  refine ⟨hr.head, fun i hi => ?_, hr.size, hr.byt⟩
  rcases hne with h0 | h1
  · omega
  · exact (World.cell?_of_block (hk.block b (World.block_lt_of_cell? _ _ (hr.cell i hi)) h1)).trans (hr.cell i hi)
theorem wt_kept {g n : Nat} {w w' : World} {a : Option Addr} {b : Nat} {l : List Int} (hk : Kept g n w w') (hr : Wt w a b l) (hne : l.length = 0 ∨ n = 0 ∨ b ≠ g) : Wt w' a b l := by
  refine ⟨hr.head, fun i hi => ?_, fun i hi => ?_, hr.size, hr.byt⟩
  · have := (rd_kept hk hr.rd hne).cell i hi
    simpa using this
  · rcases hne with h0 | h1
    · omega
    · have hb := hk.block b (World.block_lt_of_cell? _ _ (hr.cell i hi)) h1
      have := hr.free i hi
      simp only [World.frozen?, hb] at this ⊢
      exact this

theorem markB_step {w : World} {g n k : Nat} {k0 : Int} {l : List Int} (h : ∀ i, i < n → w.cell? ⟨g, i, none⟩ = some (.int .u8 (mixedB k0 l k i))) (hk : k < n) :
    ∀ i, i < n → (w.setCell ⟨g, k, none⟩ (.int .u8 ((k0 + (k : Int)) % 256))).cell? ⟨g, i, none⟩ = some (.int .u8 (mixedB k0 l (k + 1) i)) := by
  intro i hi
  by_cases e : i = k
  · subst e
    rw [World.cell?_setCell_same _ _ _ (h i hi)]
    simp [mixedB]
  · rw [World.cell?_setCell_other _ _ _ _ (by intro q; injection q with q1 q2; exact e q2.symm), h i hi]
    have : (i < k + 1) = (i < k) := by rw [eq_iff_iff]; omega
    simp [mixedB, this]

set_option maxHeartbeats 1000000 in
theorem markB_any (k0 : Int) (h0 : 0 ≤ k0) (h1 : k0 ≤ 1000000000000) (a : Option Addr) (g cap : Nat) (l : List Int) (w : World) (h : Wt w a g l) :
    Calls Try.prog 27 #[.slice a l.length cap, .int .i64 k0] w fun e w' => e = .returned (.int .i64 (k0 + (l.length : Int))) ∧ Kept g l.length w w' ∧ Wt w' a g (marksB k0 l.length) := by
  obtain ⟨hh, hc, hf, hs, hy⟩ := h
  obtain ⟨n, hn⟩ : ∃ n, n = l.length := ⟨_, rfl⟩
  rw [← hn] at hh hc hs hf ⊢
  clear hn
  go_enter Try.func27, Try.ntmps27
  go_wp2
  go_loopw [1, 5] (fun q i wr => ∃ k : Nat, k ≤ n ∧ i = .int .i64 k ∧ q = .int .i64 (k0 + (k : Int)) ∧ Kept g n w wr ∧ (∀ i, i < n → wr.cell? ⟨g, i, none⟩ = some (.int .u8 (mixedB k0 l k i))) ∧ ∀ i, i < n → wr.frozen? ⟨g, i, none⟩ = false) (fun _ i _ => n - (intOf i).toNat)
  case atStart => exact ⟨0, Nat.zero_le _, rfl, by simp, Kept.refl _ _ _, fun i hi => by rw [hc i hi]; simp [mixedB], hf⟩
  case round =>
    obtain ⟨k, hk, rfl, rfl, hon, hcl, hfr⟩ := hrel
    have HCL : Hid (∀ i, i < n → wr.cell? ⟨g, i, none⟩ = some (.int .u8 (mixedB k0 l k i))) := hcl
    have HFR : Hid (∀ i, i < n → wr.frozen? ⟨g, i, none⟩ = false) := hfr
    by_cases hlt : k < n
    · obtain rfl := hh (by omega)
      have hkz : (k : Int) < (n : Int) := by omega
      have g1 : wr.cell? ⟨g, k, none⟩ = some (.int .u8 (mixedB k0 l k k)) := hcl k hlt
      have g2 : wr.frozen? ⟨g, k, none⟩ = false := hfr k hlt
      clear hc hf hcl hfr
      go_wp2
      go_roundw
      case rel => exact ⟨k + 1, by omega, by go_num, by go_num, ⟨hon.os, hon.tape, hon.output, by simpa using hon.size, fun j hj hne => (Below.heap_setCell wr _ _ j (fun e => by simp at e; omega)).trans (hon.block j hj hne)⟩, by first | exact markB_step HCL.out hlt | simpa using markB_step HCL.out hlt, fun i hi => by simpa using HFR.out i hi⟩
      case measure => simp [intOf]; omega
    · have he : k = n := by omega
      subst he
      clear hc hf hcl hfr
      go_wp2
      go_ret
      refine ⟨rfl, hon, ⟨fun hp => hh (by simpa [marksB_len] using hp), fun i hi => ?_, fun i hi => HFR.out i (by simpa [marksB_len] using hi), by rw [marksB_len]; exact hs, marksB_byt _ _⟩⟩
      rw [marksB_len] at hi
      rw [HCL.out i hi, marksB_at _ _ _ hi]
      simp [mixedB, hi]

set_option maxHeartbeats 1000000 in
theorem heldB_any (k0 : Int) (h0 : 0 ≤ k0) (h1 : k0 ≤ 1000000000000) (a : Option Addr) (g cap n : Nat) (w : World) (h : Wt w a g (marksB k0 n)) :
    Calls Try.prog 28 #[.slice a n cap, .int .i64 k0] w fun e w' => e = .returned (.int .i64 (k0 + (n : Int))) ∧ w' = w := by
  obtain ⟨hh, hc, hf, hs, hy⟩ := h
  rw [marksB_len] at hh hc hs hf
  clear hf
  go_enter Try.func28, Try.ntmps28
  go_wp2
  go_loop [1, 5] (fun q i => ∃ k : Nat, k ≤ n ∧ i = .int .i64 k ∧ q = .int .i64 (k0 + (k : Int))) (fun _ i => n - (intOf i).toNat)
  case atStart => exact ⟨0, Nat.zero_le _, rfl, by simp⟩
  case round =>
    obtain ⟨k, hk, rfl, rfl⟩ := hrel
    by_cases hlt : k < n
    · obtain rfl := hh (by omega)
      have hkz : (k : Int) < (n : Int) := by omega
      have g1 := hc k hlt
      rw [marksB_at k0 n k hlt] at g1
      clear hc
      go_wp2
      go_round
      case rel => exact ⟨k + 1, by omega, by go_num, by go_num⟩
      case measure => simp [intOf]; omega
    · have he : k = n := by omega
      subst he
      clear hc
      go_wp2
      go_ret
      exact ⟨rfl, rfl⟩

end Go.Proofs.Ytcbhpmgjmpbpmaa.Gd
namespace Go.Proofs.Ytcbhpmgjmpbpmaa.Pr
open Go Go.RowKit
open Num Rw Mk Un Put Pl App
set_option maxRecDepth 8000

theorem getD_take (l : List Int) (n i : Nat) (h : i < n) : (l.take n).getD i 0 = l.getD i 0 := by simp [List.getD, h]
theorem rd_take {w : World} {a : Option Addr} {b off : Nat} {l : List Int} (h : Rd w a b off l) (n : Nat) : Rd w a b off (l.take n) :=
  ⟨fun hp => h.head (by have := List.length_take_le' n l; omega), fun i hi => by
    have h1 : i < n := by rw [List.length_take] at hi; omega
    have h2 : i < l.length := by rw [List.length_take] at hi; omega
    rw [getD_take l n i h1]; exact h.cell i h2, by have := List.length_take_le' n l; have := h.size; omega, fun n hn => h.byt n (List.mem_of_mem_take hn)⟩
theorem rd_drop {w : World} {b off : Nat} {l : List Int} (h : Rd w (some ⟨b, off, none⟩) b off l) (n : Nat) : Rd w (some ⟨b, off + n, none⟩) b (off + n) (l.drop n) :=
  ⟨fun _ => rfl, fun i hi => by
    have h2 : n + i < l.length := by rw [List.length_drop] at hi; omega
    have h3 := h.cell (n + i) h2
    have e : (l.drop n).getD i 0 = l.getD (n + i) 0 := by simp [List.getD]
    rw [e, Nat.add_assoc]; exact h3, by have := h.size; rw [List.length_drop]; omega, fun n hn => h.byt n (List.mem_of_mem_drop hn)⟩

theorem numAt_yes (a : Option Addr) (b off cap : Nat) (l : List Int) (p n : Nat) (w : World) (h : Rd w a b off l) (h1 : 1 ≤ n) (h6 : n ≤ 6) (hp : p + n ≤ l.length) :
    Calls Try.prog 159 #[.slice a l.length cap, .int .i64 p, .int .i64 n] w fun e w' => e = .returned (.int .i64 (Get.acc l p n)) ∧ w' = w := by
  go_enter Try.func159, Try.ntmps159
  go_wp2_with (go_at_call 198; refine (Get.implGet_yes _ _ _ _ _ _ _ _ h h1 h6 hp).mono ?_; rintro e w' ⟨rfl, rfl⟩)
  go_ret
  exact ⟨rfl, rfl⟩
theorem numAt_no (a : Option Addr) (cap n : Nat) (p size : Int) (w : World) (hn : n ≤ 4194304) (h : ¬ Get.getOk n p size) :
    Calls Try.prog 159 #[.slice a n cap, .int .i64 p, .int .i64 size] w fun e w' => e = .returned (.int .i64 0) ∧ w' = w := by
  go_enter Try.func159, Try.ntmps159
  go_wp2_with (go_at_call 198; refine (Get.implGet_no _ _ _ _ _ _ hn h).mono ?_; rintro e w' ⟨rfl, rfl⟩)
  go_ret
  exact ⟨rfl, rfl⟩

end Go.Proofs.Ytcbhpmgjmpbpmaa.Pr
namespace Go.Proofs.Ytcbhpmgjmpbpmaa.Hp
open Go Go.RowKit
open Num Rw Mk Un Put Pl App Pr
set_option maxRecDepth 4000

/-- An append to a slice of the call's own, at a step of a region that draws its order. -/
theorem step_app {ops : Array Oper} {o : Oper} {a : Act} {w : World} {K : Act → World → Prop} {Q : Exit → Act → World → Prop} {E : Prop} (hgd : o.guard = none) (s x : Operand)
    (ho : o.op = .call { callee := .builtin .append, args := #[s, x], argTypes := #[22, 22] }) (base : Nat) (v : Value) (l m : List Int) (hs : a.eval s = v) (hown : HasI w base v l)
    (A : Option Addr) (b off c : Nat) (hx : a.eval x = .slice A m.length c) (hr : Rd w A b off m) (hb : l.length + m.length ≤ 8388608) (hbase : base ≤ w.heap.size)
    (h : ∀ v' w', HasI w' base v' (l ++ m) → w.grownBy w' v.ownBlock → K (a.put o.dst v') w') : if Region.wanted o (yielded ops a.tmps) = true then Oper.wp Try.prog o a w K Q else E := by
  have hw : Region.wanted o (yielded ops a.tmps) = true := by simp [Region.wanted, hgd]
  obtain ⟨i0, hi, hz0, hz1, hz2⟩ := info_parts info5
  rcases A with _ | ad
  · rw [if_pos hw]
    obtain rfl := rd_nil hr
    have hg0 : w.grownBy w v.ownBlock := ⟨rfl, rfl, rfl, Nat.le_refl _, fun _ _ _ => rfl⟩
    have h2 := h v w (by simpa using hown) hg0
    rcases hown.1.2 with ⟨rfl, _⟩ | ⟨g, cap, cur, rfl, _, _, hn, _, _, _⟩
    · exact absurd rfl hown.2
    · unfold Oper.wp execOp
      have hrun := run_none w o.type g l.length cap c hn
      simp only [List.length_nil] at hx
      simp only [ho, resolve, invoke, builtin, Sem.run_bind, Sem.run_pure, Result.andThen_ok, List.map_toArray, List.map_cons, List.map_nil, hs, hx, hrun]
      exact h2
  · refine Step.step_append_own hgd s x 22 ho base 5 i0 (.int .u8 0) 1 1 Try.underlying22 hi hz0 hz1 hz2 rfl (by decide) v l.length (l.map (Value.int .u8)) hs hown.1 ad m.length c (m.map (Value.int .u8)) hx (by simp) (news_of hr) (by intro u hu; simp at hu; obtain ⟨q, _, rfl⟩ := hu; rfl) (by unfold maxLen; omega) (by omega) hbase ?_
    intro v' w' h1 h2 h3
    refine h v' w' ⟨by simpa using h1, fun e => ?_⟩ h2
    exact hown.2 (h3.1 e).1

/-- A slice of bytes that is made: it is the call's own. -/
theorem own_made (w : World) (xs : List Int) (n : Nat) (cs : Array Value) (hn : xs.length = n) (hc : cs.toList = xs.map (Value.int .u8)) (hs : n ≤ 4194304) : HasI (w.alloc (.cells cs 5)) w.heap.size (.slice (some ⟨w.heap.size, 0, none⟩) n n) xs := by
  subst hn
  have hsz : cs.size = xs.length := by have := congrArg List.length hc; simpa using this
  refine own_list (by unfold maxLen; omega) (Nat.le_refl _) ⟨cs, heap_alloc_new _ _, hsz, fun i hi => ?_⟩
  rw [← Array.getElem?_toList, hc, List.getElem?_map, List.getElem?_eq_getElem hi]
  simp [List.getD, hi]
theorem own_head (w : World) : HasI (w.alloc (.cells #[.int .u8 69, .int .u8 0] 5)) w.heap.size (.slice (some ⟨w.heap.size, 0, none⟩) 2 2) [69, 0] := own_made w [69, 0] 2 _ rfl rfl (by decide)

/-- What the call's own slice looks like, with its room. -/
theorem room {w : World} {B : Nat} {v : Value} {l : List Int} (h : HasI w B v l) (hs : l.length ≤ 4194304) (hy : Byt l) :
    ∃ g cap, v = .slice (some ⟨g, 0, none⟩) l.length cap ∧ B ≤ g ∧ Wt w (some ⟨g, 0, none⟩) g l ∧ l.length ≤ cap := by
  obtain ⟨g, cap, rfl, hg, hw⟩ := hasI_form h hs hy
  rcases h.1.2 with ⟨e, _⟩ | ⟨g', cap', cur, e, _, _, hn, _⟩
  · simp at e
  · injection e with e1 e2 e3
    subst e3
    exact ⟨g, cap, rfl, hg, hw, hn⟩

set_option maxHeartbeats 1000000 in
/-- A copy of a slice that is not nil, with its room. -/
theorem clone_room (ad : Addr) (b off cap n : Nat) (l : List Int) (w : World) (h : Rd w (some ad) b off l) (hn : l.length = n) :
    Calls Try.prog 80 #[.slice (some ad) n cap] w fun e w' => ∃ g cap', e = .returned (.slice (some ⟨g, 0, none⟩) n cap') ∧ Wt w' (some ⟨g, 0, none⟩) g l ∧ n ≤ cap' ∧ w.heap.size ≤ g ∧ Below w.heap.size w w' := by
  subst hn
  have hs := h.size
  have hy := h.byt
  have B0 := below_alloc1 w (.cells #[] 5)
  have O0 := own_empty w
  have h0 := h.below B0
  have q0 := eql_some ad l.length cap w
  go_enter Try.func80, Try.ntmps80
  go_wp2_with (at_builtin; refine wpList_app rfl (.tmp 5) (.tmp 6) rfl w.heap.size _ [] l rfl O0 (some ad) b off cap rfl h0 (by simp; omega) (by simp) ?_; intro v' w' hown hgrow)
  go_ret
  have hB := below_own O0 B0 (Nat.le_refl _) hgrow
  obtain ⟨g, cap', rfl, hg, hwt, hr⟩ := room hown (by simpa using hs) (by simpa using hy)
  simp only [List.nil_append] at hwt hr
  exact ⟨g, cap', rfl, hwt, hr, hg, hB⟩

theorem size_of {s z : Int} (h : numOkB s z = true) : 1 ≤ z ∧ z ≤ 6 := by
  obtain ⟨N, k, rfl, rfl, h1, h6, _⟩ := numOk_nat h
  omega

end Go.Proofs.Ytcbhpmgjmpbpmaa.Hp
namespace Go.Proofs.Ytcbhpmgjmpbpmaa.Em
set_option maxRecDepth 8000
set_option linter.unusedSimpArgs false
set_option linter.unusedVariables false
open Go Go.RowKit
open Num Pl Ea

/-- Actions that may be written. -/
structure WtA (w : World) (a : Option Addr) (g : Nat) (l : List Yb.A3) : Prop where
  head : 0 < l.length → a = some ⟨g, 0, none⟩
  cell : ∀ j, j < l.length * 3 → w.cell? ⟨g, j, none⟩ = some (.int .i64 (Yb.flat l j))
  free : ∀ j, j < l.length * 3 → w.frozen? ⟨g, j, none⟩ = false
  size : l.length ≤ 4194304
theorem WtA.rd {w : World} {a : Option Addr} {g : Nat} {l : List Yb.A3} (h : WtA w a g l) : Yb.Rd w a g 0 l := by
  refine ⟨h.head, fun i hi => ⟨?_, ?_, ?_⟩, h.size⟩
  · rw [← Yb.flat0, Nat.zero_add]; exact h.cell _ (by omega)
  · rw [← Yb.flat1, Nat.zero_add]; exact h.cell _ (by omega)
  · rw [← Yb.flat2, Nat.zero_add]; exact h.cell _ (by omega)
theorem mineA_wt {w : World} {g : Nat} {l : List Yb.A3} (h : Yb.Mine w g l) : WtA w (some ⟨g, 0, none⟩) g l :=
  ⟨fun _ => rfl, fun j hj => h.row.cell hj, fun j hj => h.row.frozen j, h.size⟩
theorem WtA.keep {w w' : World} {a : Option Addr} {g : Nat} {l : List Yb.A3} (h : WtA w a g l) (e : 0 < l.length → w'.heap[g]? = w.heap[g]?) : WtA w' a g l := by
  refine ⟨h.head, fun j hj => ?_, fun j hj => ?_, h.size⟩
  · have := h.cell j hj
    have e := e (by omega)
    simp only [World.cell?, e] at this ⊢; exact this
  · have := h.free j hj
    have e := e (by omega)
    simp only [World.frozen?, e] at this ⊢; exact this
theorem wt_keep {w w' : World} {a : Option Addr} {g : Nat} {l : List Int} (h : Hr.Wt w a g l) (e : 0 < l.length → w'.heap[g]? = w.heap[g]?) : Hr.Wt w' a g l := by
  refine ⟨h.head, fun j hj => ?_, fun j hj => ?_, h.size⟩
  · have := h.cell j hj
    have e := e (by omega)
    simp only [World.cell?, e] at this ⊢; exact this
  · have := h.free j hj
    have e := e (by omega)
    simp only [World.frozen?, e] at this ⊢; exact this
def marksA (k : Int) (n : Nat) : List Yb.A3 := (List.range n).map fun i : Nat => (k + 3 * (i : Int), k + 3 * (i : Int) + 1, k + 3 * (i : Int) + 2)
theorem marksA_len (k : Int) (n : Nat) : (marksA k n).length = n := by simp [marksA]
theorem marksA_flat (k : Int) (n j : Nat) (h : j < n * 3) : Yb.flat (marksA k n) j = k + (j : Int) := by
  have hj : j / 3 < n := by omega
  have e : (marksA k n).getD (j / 3) Yb.z3 = (k + 3 * ((j / 3 : Nat) : Int), k + 3 * ((j / 3 : Nat) : Int) + 1, k + 3 * ((j / 3 : Nat) : Int) + 2) := by simp [marksA, List.getD, hj]
  unfold Yb.flat
  rw [e]
  split
  · simp only; omega
  · split
    · simp only; omega
    · simp only; omega
/-- A cell of a row is written. -/
theorem set_at {w : World} {g n k : Nat} {f : Nat → Value} {u : Value} (h : ∀ i, i < n → w.cell? ⟨g, i, none⟩ = some (f i)) : ∀ i, i < n → (w.setCell ⟨g, k, none⟩ u).cell? ⟨g, i, none⟩ = some (if i = k then u else f i) := by
  intro i hi
  by_cases e : i = k
  · subst e
    rw [World.cell?_setCell_same _ _ _ (h i hi), if_pos rfl]
  · rw [World.cell?_setCell_other _ _ _ _ (by intro q; injection q with q1 q2; exact e q2.symm), h i hi, if_neg e]
def mixA (k : Int) (l : List Yb.A3) (m j : Nat) : Int := if j < m * 3 then k + (j : Int) else Yb.flat l j

set_option maxHeartbeats 1000000 in
theorem markA_any (k0 : Int) (h0 : 0 ≤ k0) (h1 : k0 ≤ 1000000000000) (a : Option Addr) (g cap : Nat) (l : List Yb.A3) (w : World) (h : WtA w a g l) :
    Calls Try.prog 94 #[.slice a l.length cap, .int .i64 k0] w fun e w' => e = .returned (.int .i64 (k0 + 3 * (l.length : Int))) ∧ Mf.Kept g l.length w w' ∧ WtA w' a g (marksA k0 l.length) := by
  obtain ⟨hh, hc, hf, hs⟩ := h
  obtain ⟨n, hn⟩ : ∃ n, n = l.length := ⟨_, rfl⟩
  rw [← hn] at hh hc hf hs ⊢
  have HC : Hid (∀ j, j < n * 3 → w.cell? ⟨g, j, none⟩ = some (.int .i64 (mixA k0 l 0 j))) := fun j hj => by simpa [mixA] using hc j hj
  have HF : Hid (∀ j, j < n * 3 → w.frozen? ⟨g, j, none⟩ = false) := hf
  have HH : Hid (0 < n → a = some ⟨g, 0, none⟩) := hh
  clear hc hf hn
  go_enter Try.func94, Try.ntmps94
  go_wp2
  go_loopw [1, 5] (fun q i wr => ∃ k : Nat, k ≤ n ∧ i = .int .i64 k ∧ q = .int .i64 (k0 + 3 * (k : Int)) ∧ Mf.Kept g n w wr ∧ (∀ j, j < n * 3 → wr.cell? ⟨g, j, none⟩ = some (.int .i64 (mixA k0 l k j))) ∧ ∀ j, j < n * 3 → wr.frozen? ⟨g, j, none⟩ = false) (fun _ i _ => n - (intOf i).toNat)
  case atStart => exact ⟨0, Nat.zero_le _, rfl, by simp, Mf.Kept.refl _ _ _, HC.out, HF.out⟩
  case round =>
    obtain ⟨k, hk, rfl, rfl, hon, hc, hf⟩ := hrel
    by_cases hlt : k < n
    · obtain rfl := hh (by omega)
      have hkz : (k : Int) < (n : Int) := by omega
      have g0 := hc (k * 3) (by omega)
      have g1 := hc (k * 3 + 1) (by omega)
      have g2 := hc (k * 3 + 2) (by omega)
      have f0 := hf (k * 3) (by omega)
      have f1 := hf (k * 3 + 1) (by omega)
      have f2 := hf (k * 3 + 2) (by omega)
      have HC1 : Hid (∀ j, j < n * 3 → wr.cell? ⟨g, j, none⟩ = some (.int .i64 (mixA k0 l k j))) := hc
      have HF1 : Hid (∀ j, j < n * 3 → wr.frozen? ⟨g, j, none⟩ = false) := hf
      clear hc hf HC HF hh
      go_wp2
      go_roundw
      case rel =>
        refine ⟨k + 1, by omega, by go_num, by simp only [Value.int.injEq, true_and]; omega, ?_, fun j hj => ?_, fun j hj => ?_⟩
        · exact ⟨hon.os, hon.tape, hon.output, by simpa using hon.size, fun b hb hne => by
            have hb' : g ≠ b := by rcases hne with h | h <;> omega
            rw [blk_other (blk_other (blk_other rfl hb') hb') hb']
            exact hon.block b hb hne⟩
        · rw [set_at (set_at (set_at HC1.out)) j hj]
          by_cases e2 : j = k * 3 + 2
          · subst e2; rw [if_pos rfl]; simp [mixA]; omega
          · rw [if_neg e2]
            by_cases e1 : j = k * 3 + 1
            · subst e1; rw [if_pos rfl]; simp [mixA]; omega
            · rw [if_neg e1]
              by_cases e0 : j = k * 3
              · subst e0; rw [if_pos rfl]; simp [mixA]; omega
              · rw [if_neg e0]
                have : (j < (k + 1) * 3) = (j < k * 3) := by rw [eq_iff_iff]; omega
                simp [mixA, this]
        · simpa using HF1.out j hj
      case measure => simp [intOf]; omega
    · have he : k = n := by omega
      subst he
      go_wp2
      go_ret
      refine ⟨rfl, hon, ⟨fun h => HH.out (by rwa [marksA_len] at h), fun j hj => ?_, fun j hj => ?_, by rw [marksA_len]; exact hs⟩⟩
      · rw [marksA_len] at hj
        rw [hc j hj, marksA_flat _ _ _ hj]
        simp [mixA, hj]
      · rw [marksA_len] at hj
        exact hf j hj

set_option maxHeartbeats 1000000 in
theorem heldA_any (k0 : Int) (h0 : 0 ≤ k0) (h1 : k0 ≤ 1000000000000) (a : Option Addr) (g cap n : Nat) (w : World) (h : WtA w a g (marksA k0 n)) :
    Calls Try.prog 99 #[.slice a n cap, .int .i64 k0] w fun e w' => e = .returned (.int .i64 (k0 + 3 * (n : Int))) ∧ w' = w := by
  obtain ⟨hh, hc, hf, hs⟩ := h
  rw [marksA_len] at hh hc hf hs
  have hc1 : ∀ j, j < n * 3 → w.cell? ⟨g, j, none⟩ = some (.int .i64 (k0 + (j : Int))) := fun j hj => by rw [hc j hj, marksA_flat _ _ _ hj]
  clear hc hf
  go_enter Try.func99, Try.ntmps99
  go_wp2
  go_loop [1, 5] (fun q i => ∃ k : Nat, k ≤ n ∧ i = .int .i64 k ∧ q = .int .i64 (k0 + 3 * (k : Int))) (fun _ i => n - (intOf i).toNat)
  case atStart => exact ⟨0, Nat.zero_le _, rfl, by simp⟩
  case round =>
    obtain ⟨k, hk, rfl, rfl⟩ := hrel
    by_cases hlt : k < n
    · obtain rfl := hh (by omega)
      have hkz : (k : Int) < (n : Int) := by omega
      obtain ⟨K, hK⟩ : ∃ K : Int, K = k0 + 3 * (k : Int) := ⟨_, rfl⟩
      have g0 : w.cell? ⟨g, k * 3, none⟩ = some (.int .i64 K) := by rw [hc1 (k * 3) (by omega)]; simp only [Option.some.injEq, Value.int.injEq, true_and]; omega
      have g1 : w.cell? ⟨g, k * 3 + 1, none⟩ = some (.int .i64 (K + 1)) := by rw [hc1 (k * 3 + 1) (by omega)]; simp only [Option.some.injEq, Value.int.injEq, true_and]; omega
      have g2 : w.cell? ⟨g, k * 3 + 2, none⟩ = some (.int .i64 (K + 1 + 1)) := by rw [hc1 (k * 3 + 2) (by omega)]; simp only [Option.some.injEq, Value.int.injEq, true_and]; omega
      rw [← hK]
      have HK : Hid (K = k0 + 3 * (k : Int)) := hK
      have b1 : 0 ≤ K ∧ K ≤ 2000000000000 := by omega
      clear hc1 hK
      go_wp2
      go_roundw
      case rel => exact ⟨k + 1, by omega, by go_num, by have := HK.out; simp only [Value.int.injEq, true_and]; omega⟩
      case measure => simp [intOf]; omega
    · have he : k = n := by omega
      subst he
      go_wp2
      go_ret
      exact ⟨rfl, rfl⟩

end Go.Proofs.Ytcbhpmgjmpbpmaa.Em
namespace Go.Proofs.Ytcbhpmgjmpbpmaa.Em
set_option maxRecDepth 8000
set_option linter.unusedSimpArgs false
set_option linter.unusedVariables false
open Go Go.RowKit
open Num Pl Ea Mf

/-- An entry whose slices may be written. -/
structure WtE (w : World) (e : Ent) : Prop where
  V : Hr.Wt w e.aV e.bV e.V
  M : Hr.Wt w e.aM e.bM e.M
  A : WtA w e.aA e.bA e.A
/-- The blocks of an entry's slices. -/
def Uses (e : Ent) (x : Nat) : Prop := (x = e.bV ∧ 0 < e.V.length) ∨ (x = e.bM ∧ 0 < e.M.length) ∨ (x = e.bA ∧ 0 < e.A.length)
theorem WtE.keep {w w' : World} {e : Ent} (h : WtE w e) (hk : ∀ x, Uses e x → x < w.heap.size → w'.heap[x]? = w.heap[x]?) : WtE w' e :=
  ⟨wt_keep h.V fun h0 => hk _ (.inl ⟨rfl, h0⟩) (by rcases Hr.wt_lt h.V with h1 | h1 <;> omega), wt_keep h.M fun h0 => hk _ (.inr (.inl ⟨rfl, h0⟩)) (by rcases Hr.wt_lt h.M with h1 | h1 <;> omega), h.A.keep fun h0 => hk _ (.inr (.inr ⟨rfl, h0⟩)) (World.block_lt_of_cell? _ _ (h.A.cell 0 (by omega)))⟩
theorem WtE.lt {w : World} {e : Ent} (h : WtE w e) {x : Nat} (hx : Uses e x) : x < w.heap.size := by
  rcases hx with ⟨rfl, h0⟩ | ⟨rfl, h0⟩ | ⟨rfl, h0⟩
  · rcases Hr.wt_lt h.V with h1 | h1 <;> omega
  · rcases Hr.wt_lt h.M with h1 | h1 <;> omega
  · exact World.block_lt_of_cell? _ _ (h.A.cell 0 (by omega))
theorem WtE.below {w w' : World} {e : Ent} (h : WtE w e) (hb : Below w.heap.size w w') : WtE w' e := h.keep fun x _ hx => hb.block x hx
/-- The three slices lie in three blocks. -/
structure Own3 (e : Ent) : Prop where
  d1 : 0 < e.V.length → 0 < e.M.length → e.bV ≠ e.bM
  d2 : 0 < e.V.length → 0 < e.A.length → e.bV ≠ e.bA
  d3 : 0 < e.M.length → 0 < e.A.length → e.bM ≠ e.bA

/-- How many numbers an entry holds; a marked entry. -/
def esz (e : Ent) : Nat := 3 + e.V.length + e.M.length + 3 * e.A.length
def markE (k : Int) (e : Ent) : Ent :=
  { e with ep := k, pr := k + 1, V := marksF (k + 2) e.V.length, M := marksF (k + 2 + (e.V.length : Int)) e.M.length, A := marksA (k + 2 + (e.V.length : Int) + (e.M.length : Int)) e.A.length, h := k + 2 + (e.V.length : Int) + (e.M.length : Int) + 3 * (e.A.length : Int) }
theorem uses_mark {k : Int} {e : Ent} {x : Nat} : Uses (markE k e) x ↔ Uses e x := by
  simp [Uses, markE, marksF_len, marksA_len]
theorem own3_mark {k : Int} {e : Ent} (h : Own3 e) : Own3 (markE k e) :=
  ⟨by simpa [markE, marksF_len] using h.d1, by simpa [markE, marksF_len, marksA_len] using h.d2, by simpa [markE, marksF_len, marksA_len] using h.d3⟩
def vf (f : Nat → Ent) (j : Nat) : Value := (f (j / 6)).vals.getD (j % 6) (.int .i64 0)
/-- A row of n entries that may be written. -/
structure WtF (w : World) (g n : Nat) (f : Nat → Ent) : Prop where
  row : ∀ j, j < n * 6 → w.cell? ⟨g, j, none⟩ = some (vf f j)
  free : ∀ j, j < n * 6 → w.frozen? ⟨g, j, none⟩ = false
  each : ∀ i, i < n → WtE w (f i)
/-- All its blocks lie apart. -/
structure ApF (g n : Nat) (f : Nat → Ent) : Prop where
  far : ∀ i, i < n → ∀ x, Uses (f i) x → x ≠ g
  self : ∀ i, i < n → Own3 (f i)
  diff : ∀ i j, i < n → j < n → i ≠ j → ∀ x, Uses (f i) x → ∀ y, Uses (f j) y → x ≠ y
/-- All is kept but the blocks U. -/
structure KeptP (U : Nat → Prop) (w w' : World) : Prop where
  os : w'.os = w.os
  tape : w'.tape = w.tape
  output : w'.output = w.output
  size : w.heap.size ≤ w'.heap.size
  block : ∀ k, k < w.heap.size → ¬ U k → w'.heap[k]? = w.heap[k]?
theorem KeptP.refl (U : Nat → Prop) (w : World) : KeptP U w w := ⟨rfl, rfl, rfl, Nat.le_refl _, fun _ _ _ => rfl⟩
theorem KeptP.trans {U : Nat → Prop} {a b c : World} (h : KeptP U a b) (h' : KeptP U b c) : KeptP U a c :=
  ⟨h'.os.trans h.os, h'.tape.trans h.tape, h'.output.trans h.output, Nat.le_trans h.size h'.size, fun k hk hu => (h'.block k (Nat.lt_of_lt_of_le hk h.size) hu).trans (h.block k hk hu)⟩
theorem KeptP.set {U : Nat → Prop} {w : World} {g i : Nat} {u : Value} (hg : U g) : KeptP U w (w.setCell ⟨g, i, none⟩ u) :=
  ⟨rfl, rfl, rfl, by simp, fun k _ hu => blk_other rfl (fun e => hu (e ▸ hg))⟩
theorem KeptP.kept {U : Nat → Prop} {w w' : World} {g n : Nat} (h : Kept g n w w') (hg : 0 < n → U g) : KeptP U w w' :=
  ⟨h.os, h.tape, h.output, h.size, fun k hk hu => h.block k hk (by
    rcases Nat.eq_zero_or_pos n with h0 | h0
    · exact .inl h0
    · exact .inr (fun e => hu (e ▸ hg h0)))⟩
theorem KeptP.mono {U U' : Nat → Prop} {w w' : World} (h : KeptP U w w') (hu : ∀ x, U x → U' x) : KeptP U' w w' :=
  ⟨h.os, h.tape, h.output, h.size, fun k hk hn => h.block k hk (fun h1 => hn (hu k h1))⟩
theorem KeptP.below {U : Nat → Prop} {w w' w0 : World} (h : KeptP U w w') (hb : Below w0.heap.size w0 w) (hu : ∀ x, U x → w0.heap.size ≤ x) : Below w0.heap.size w0 w' :=
  ⟨h.os.trans hb.os, h.tape.trans hb.tape, h.output.trans hb.output, Nat.le_trans hb.size h.size, fun k hk => (h.block k (Nat.lt_of_lt_of_le hk hb.size) (fun h1 => by have := hu k h1; omega)).trans (hb.block k hk)⟩
theorem KeptP.pre {U : Nat → Prop} {w w' w0 : World} (hb : Below w0.heap.size w0 w) (h : KeptP U w w') : KeptP U w0 w' :=
  ⟨h.os.trans hb.os, h.tape.trans hb.tape, h.output.trans hb.output, Nat.le_trans hb.size h.size, fun k hk hu => (h.block k (Nat.lt_of_lt_of_le hk hb.size) hu).trans (hb.block k hk)⟩

def upd (f : Nat → Ent) (k : Nat) (e : Ent) : Nat → Ent := fun i => if i = k then e else f i
theorem vf_mark {f : Nat → Ent} {k : Nat} {K : Int} (j : Nat) : vf (upd f k (markE K (f k))) j = if j = k * 6 + 5 then .int .i64 (markE K (f k)).h else if j = k * 6 + 1 then .int .i64 (K + 1) else if j = k * 6 then .int .i64 K else vf f j := by
  unfold vf upd
  by_cases e : j / 6 = k
  · rw [if_pos e]
    have hr : j % 6 < 6 := Nat.mod_lt _ (by omega)
    by_cases e5 : j = k * 6 + 5
    · rw [if_pos e5, show j % 6 = 5 by omega]; rfl
    rw [if_neg e5]
    by_cases e1 : j = k * 6 + 1
    · rw [if_pos e1, show j % 6 = 1 by omega]; rfl
    rw [if_neg e1]
    by_cases e0 : j = k * 6
    · rw [if_pos e0, show j % 6 = 0 by omega]; rfl
    rw [if_neg e0, e]
    have e2 : j % 6 = 2 ∨ j % 6 = 3 ∨ j % 6 = 4 := by omega
    rcases e2 with e2 | e2 | e2 <;> rw [e2] <;> simp [Ent.vals, markE, marksF_len, marksA_len]
  · rw [if_neg e, if_neg (by omega), if_neg (by omega), if_neg (by omega)]

/-- One entry is marked. -/
theorem mark_round {w w2 w3 w4 : World} {g n k : Nat} {f : Nat → Ent} {K : Int} {u v x : Value} (h : WtF w g n f) (ha : ApF g n f) (hk : k < n) (hg : g < w.heap.size)
    (hu : u = .int .i64 K) (hv : v = .int .i64 (K + 1)) (hx : x = .int .i64 (markE K (f k)).h)
    (k2 : Kept (f k).bV (f k).V.length ((w.setCell ⟨g, k * 6, none⟩ u).setCell ⟨g, k * 6 + 1, none⟩ v) w2) (m2 : Hr.Wt w2 (f k).aV (f k).bV (markE K (f k)).V)
    (k3 : Kept (f k).bM (f k).M.length w2 w3) (m3 : Hr.Wt w3 (f k).aM (f k).bM (markE K (f k)).M)
    (k4 : Kept (f k).bA (f k).A.length w3 w4) (m4 : WtA w4 (f k).aA (f k).bA (markE K (f k)).A) :
    WtF (w4.setCell ⟨g, k * 6 + 5, none⟩ x) g n (upd f k (markE K (f k))) ∧ KeptP (fun b => b = g ∨ Uses (f k) b) w (w4.setCell ⟨g, k * 6 + 5, none⟩ x) := by
  have s2 : w.heap.size ≤ w2.heap.size := by simpa using k2.size
  have s3 := Nat.le_trans s2 k3.size
  have fg := ha.far k hk
  have gV : (f k).V.length = 0 ∨ g ≠ (f k).bV := by
    rcases Nat.eq_zero_or_pos (f k).V.length with h0 | h0
    · exact .inl h0
    · exact .inr (fun e => fg _ (.inl ⟨rfl, h0⟩) e.symm)
  have gM : (f k).M.length = 0 ∨ g ≠ (f k).bM := by
    rcases Nat.eq_zero_or_pos (f k).M.length with h0 | h0
    · exact .inl h0
    · exact .inr (fun e => fg _ (.inr (.inl ⟨rfl, h0⟩)) e.symm)
  have gA : (f k).A.length = 0 ∨ g ≠ (f k).bA := by
    rcases Nat.eq_zero_or_pos (f k).A.length with h0 | h0
    · exact .inl h0
    · exact .inr (fun e => fg _ (.inr (.inr ⟨rfl, h0⟩)) e.symm)
  have bg : w4.heap[g]? = ((w.setCell ⟨g, k * 6, none⟩ u).setCell ⟨g, k * 6 + 1, none⟩ v).heap[g]? := (k4.block g (by omega) gA).trans ((k3.block g (by omega) gM).trans (k2.block g (by simpa using hg) gV))
  have kp : KeptP (fun b => b = g ∨ Uses (f k) b) w (w4.setCell ⟨g, k * 6 + 5, none⟩ x) :=
    (((((KeptP.set (.inl rfl)).trans (KeptP.set (.inl rfl))).trans (KeptP.kept k2 (fun h0 => .inr (.inl ⟨rfl, h0⟩)))).trans (KeptP.kept k3 (fun h0 => .inr (.inr (.inl ⟨rfl, h0⟩))))).trans (KeptP.kept k4 (fun h0 => .inr (.inr (.inr ⟨rfl, h0⟩))))).trans (KeptP.set (.inl rfl))
  refine ⟨⟨fun j hj => ?_, fun j hj => ?_, fun i hi => ?_⟩, kp⟩
  · have r1 := set_at (k := k * 6 + 1) (u := v) (set_at (k := k * 6) (u := u) h.row)
    have r4 : ∀ i, i < n * 6 → w4.cell? ⟨g, i, none⟩ = some (if i = k * 6 + 1 then v else if i = k * 6 then u else vf f i) := fun i hi => by
      have := r1 i hi
      simp only [World.cell?, bg] at this ⊢; exact this
    rw [set_at r4 j hj, vf_mark, hu, hv, hx]
  · have := h.free j hj
    have e1 : w4.frozen? ⟨g, j, none⟩ = w.frozen? ⟨g, j, none⟩ := by
      have e2 : ((w.setCell ⟨g, k * 6, none⟩ u).setCell ⟨g, k * 6 + 1, none⟩ v).frozen? ⟨g, j, none⟩ = w.frozen? ⟨g, j, none⟩ := by simp
      rw [← e2]
      simp only [World.frozen?, bg]
    simp [e1, this]
  · by_cases e : i = k
    · subst e
      have hs := ha.self i hi
      have ev : upd f i (markE K (f i)) i = markE K (f i) := by simp [upd]
      rw [ev]
      have lV : (markE K (f i)).V.length = (f i).V.length := by simp [markE, marksF_len]
      have lM : (markE K (f i)).M.length = (f i).M.length := by simp [markE, marksF_len]
      have lA : (markE K (f i)).A.length = (f i).A.length := by simp [markE, marksA_len]
      refine ⟨wt_keep m2 fun h0 => ?_, wt_keep m3 fun h0 => ?_, m4.keep fun h0 => ?_⟩
      · rw [lV] at h0
        have hl : (f i).bV < w2.heap.size := by rcases Hr.wt_lt m2 with h1 | h1 <;> omega
        show (w4.setCell ⟨g, i * 6 + 5, none⟩ x).heap[(f i).bV]? = w2.heap[(f i).bV]?
        rw [blk_other rfl (fun e => fg _ (.inl ⟨rfl, h0⟩) e.symm), k4.block _ (by have := k3.size; omega) (by
          rcases Nat.eq_zero_or_pos (f i).A.length with h1 | h1
          · exact .inl h1
          · exact .inr (hs.d2 h0 h1)), k3.block _ hl (by
          rcases Nat.eq_zero_or_pos (f i).M.length with h1 | h1
          · exact .inl h1
          · exact .inr (hs.d1 h0 h1))]
      · rw [lM] at h0
        have hl : (f i).bM < w3.heap.size := by rcases Hr.wt_lt m3 with h1 | h1 <;> omega
        show (w4.setCell ⟨g, i * 6 + 5, none⟩ x).heap[(f i).bM]? = w3.heap[(f i).bM]?
        rw [blk_other rfl (fun e => fg _ (.inr (.inl ⟨rfl, h0⟩)) e.symm), k4.block _ hl (by
          rcases Nat.eq_zero_or_pos (f i).A.length with h1 | h1
          · exact .inl h1
          · exact .inr (hs.d3 h0 h1))]
      · rw [lA] at h0
        exact blk_other rfl (fun e => fg _ (.inr (.inr ⟨rfl, h0⟩)) e.symm)
    · have ev : upd f k (markE K (f k)) i = f i := by simp [upd, e]
      rw [ev]
      exact (h.each i hi).keep fun b hb hl => kp.block b hl (fun h1 => by
        rcases h1 with h1 | h1
        · exact ha.far i hi b hb h1
        · exact ha.diff i k hi hk e b hb b h1 rfl)

end Go.Proofs.Ytcbhpmgjmpbpmaa.Em
namespace Go.Proofs.Ytcbhpmgjmpbpmaa.Gp
open Go Go.RowKit
set_option maxRecDepth 8000
set_option linter.unusedSimpArgs false
set_option linter.unusedVariables false
open Num Pl Rw Mk Mf Un App Gd

/-- A part that lies in memory. -/
structure Pt where
  a : Option Addr
  g : Nat
  c : Nat
  l : List Int
def p0 : Pt := ⟨none, 0, 0, []⟩
def Pt.val (p : Pt) : Value := .slice p.a p.l.length p.c
/-- A row of parts of the call's own, from block B on. -/
structure OP (w : World) (B : Nat) (v : Value) (P : List Pt) : Prop where
  own : w.ownsRow B 44 1 v P.length (P.map Pt.val)
  each : ∀ p ∈ P, Wt w p.a p.g p.l ∧ B ≤ p.g ∧ 0 < p.l.length
  far : ∀ p ∈ P, some p.g ≠ v.ownBlock
  diff : P.Pairwise (fun p q => p.g ≠ q.g)
theorem OP.nil (w : World) (B : Nat) : OP w B (.slice none 0 0) [] := ⟨World.ownsRow_nil w B 44 1, fun _ h => by simp at h, fun _ h => by simp at h, List.Pairwise.nil⟩
theorem OP.empty (w : World) : OP (w.alloc (.cells #[] 44)) w.heap.size (.slice (some ⟨w.heap.size, 0, none⟩) 0 0) [] :=
  ⟨by simpa using World.ownsRow_made (size := 1) (e := 44) w #[] 0 (Nat.le_refl _) (Nat.zero_le _) rfl, fun _ h => by simp at h, fun _ h => by simp at h, List.Pairwise.nil⟩
theorem wt_lt {w : World} {a : Option Addr} {g : Nat} {l : List Int} (h : Wt w a g l) (hl : 0 < l.length) : g < w.heap.size := World.block_lt_of_cell? _ _ (h.cell 0 hl)
theorem wt_keep {w w' : World} {a : Option Addr} {g : Nat} {l : List Int} (h : Wt w a g l) (e : 0 < l.length → w'.heap[g]? = w.heap[g]?) : Wt w' a g l := by
  refine ⟨h.head, fun i hi => ?_, fun i hi => ?_, h.size, h.byt⟩
  · exact (World.cell?_of_block (e (by omega))).trans (h.cell i hi)
  · have := h.free i hi
    simp only [World.frozen?, e (by omega)] at this ⊢
    exact this
theorem OP.keep {w w' : World} {B : Nat} {v : Value} {P : List Pt} (h : OP w B v P) (hk : ∀ x, x < w.heap.size → B ≤ x → w'.heap[x]? = w.heap[x]?) : OP w' B v P := by
  refine ⟨⟨h.own.1, ?_⟩, fun p hp => ⟨wt_keep (h.each p hp).1 fun hl => hk _ (wt_lt (h.each p hp).1 hl) (h.each p hp).2.1, (h.each p hp).2⟩, h.far, h.diff⟩
  rcases h.own.2 with ⟨e1, e2⟩ | ⟨g, cap, cur, e1, hb, hg, rest⟩
  · exact .inl ⟨e1, e2⟩
  · exact .inr ⟨g, cap, cur, e1, hb, (hk g ((Array.getElem?_eq_some_iff.1 hg).1) hb).trans hg, rest⟩
theorem OP.below {w w' : World} {B : Nat} {v : Value} {P : List Pt} (h : OP w B v P) (hb : Below w.heap.size w w') : OP w' B v P := h.keep fun x hx _ => hb.block x hx
theorem OP.mono {w : World} {B B' : Nat} {v : Value} {P : List Pt} (h : OP w B v P) (hB : B' ≤ B) : OP w B' v P := by
  refine ⟨⟨h.own.1, ?_⟩, fun p hp => ⟨(h.each p hp).1, Nat.le_trans hB (h.each p hp).2.1, (h.each p hp).2.2⟩, h.far, h.diff⟩
  rcases h.own.2 with ⟨e1, e2⟩ | ⟨g, cap, cur, e1, hb, rest⟩
  · exact .inl ⟨e1, e2⟩
  · exact .inr ⟨g, cap, cur, e1, Nat.le_trans hB hb, rest⟩
theorem OP.row_lt {w : World} {B : Nat} {v : Value} {P : List Pt} (h : OP w B v P) {k : Nat} (hk : v.ownBlock = some k) : B ≤ k ∧ k < w.heap.size := by
  have := h.own.lt k (by simpa using hk)
  exact ⟨this.1, this.2⟩
theorem OP.lt {w : World} {B : Nat} {v : Value} {P : List Pt} (h : OP w B v P) {p : Pt} (hp : p ∈ P) : p.g < w.heap.size := wt_lt (h.each p hp).1 (h.each p hp).2.2
theorem OP.grown {w w0 w' : World} {B : Nat} {v : Value} {P : List Pt} (h : OP w B v P) (hb : Below w0.heap.size w0 w) (hB : w0.heap.size ≤ B) (hg : w.grownBy w' v.ownBlock) : Below w0.heap.size w0 w' :=
  hb.grown hg hb.size (fun k hk => by have := (h.row_lt hk).1; omega)

theorem info44 : (Try.prog.info? 44).map (fun i => (i.zero, i.size, i.bytes)) = some (some (.agg #[.slice none 0 0]), 1, 24) := by kernel_rfl

/-- One more part, at the end; w0 is a world ahead of the part's own blocks. -/
theorem OP.app {w0 w : World} {B T c : Nat} {v : Value} {P : List Pt} {p : Pt} (ty : TypeId) (h0 : OP w0 B v P) (hb : Below w0.heap.size w0 w) (hp : Wt w p.a p.g p.l) (hl : 0 < p.l.length) (hlo : w0.heap.size ≤ p.g) (hB : B ≤ w0.heap.size)
    (hT : w.heap[T]? = some (.cells #[p.val] 44 (0, 0))) (hlen : P.length ≤ 100000) :
    ∃ v' w', (Builtin.append_ #[40, 40] ty #[v, .slice (some ⟨T, 0, none⟩) 1 c]).run Try.prog w = .ok v' w' ∧ OP w' B v' (P ++ [p]) ∧ w.grownBy w' v.ownBlock := by
  have h := h0.below hb
  obtain ⟨i, hi, hzz⟩ := Option.map_eq_some_iff.1 info44
  simp only [Prod.mk.injEq] at hzz
  obtain ⟨hz, hs, hby⟩ := hzz
  obtain ⟨v', w', r, h1, h2, h3, h4⟩ := run_append_own_at (P := Try.prog) (w := w) B 40 ty 44 i (.agg #[.slice none 0 0]) 1 24 Try.underlying40 hi hz hs hby rfl (by decide) v P.length (P.map Pt.val) h.own ⟨T, 0, none⟩ 1 c [p.val] (by simp)
    (by
      intro j u hj
      have : j = 0 := by have := (List.getElem?_eq_some_iff.1 hj).1; simp at this; omega
      subst this
      simp at hj
      subst hj
      simp [Addr.add, World.cell?, hT])
    (by intro u hu; simp at hu; subst hu; rfl) (by unfold maxLen; omega) (by omega) (Nat.le_trans hB hb.size)
  have nf : some p.g ≠ v.ownBlock := fun e => by
    have := (h0.row_lt e.symm).2
    omega
  have lp := wt_lt hp hl
  refine ⟨v', w', r, ⟨by simpa using h1, ?_, ?_, ?_⟩, h2⟩
  · intro q hq
    rcases List.mem_append.1 hq with hq | hq
    · exact ⟨wt_keep (h.each q hq).1 fun _ => h2.block _ (h.lt hq) (h.far q hq), (h.each q hq).2⟩
    · obtain rfl := List.mem_singleton.1 hq
      exact ⟨wt_keep hp fun _ => h2.block _ lp nf, by omega, hl⟩
  · intro q hq
    have hx1 : some q.g ≠ v.ownBlock ∧ q.g < w.heap.size := by
      rcases List.mem_append.1 hq with hq | hq
      · exact ⟨h.far q hq, h.lt hq⟩
      · obtain rfl := List.mem_singleton.1 hq
        exact ⟨nf, lp⟩
    rcases h4 with h4 | h4
    · rw [h4]; exact hx1.1
    · rw [h4]; simp; omega
  · rw [List.pairwise_append]
    refine ⟨h.diff, List.pairwise_singleton _ _, fun a ha b hb' => ?_⟩
    obtain rfl := List.mem_singleton.1 hb'
    have := h0.lt ha
    omega

theorem wpList_appP {ops : Array Oper} {rest : List Oper} {o : Oper} {a : Act} {w0 w : World} {Q : Exit → Act → World → Prop} (hgd : o.guard = none) (s x : Operand)
    (ho : o.op = .call { callee := .builtin .append, args := #[s, x], argTypes := #[40, 40] }) (B T c : Nat) (v : Value) (P : List Pt) (p : Pt) (hs : a.eval s = v) (hx : a.eval x = .slice (some ⟨T, 0, none⟩) 1 c)
    (h0 : OP w0 B v P) (hb : Below w0.heap.size w0 w) (hp : Wt w p.a p.g p.l) (hl : 0 < p.l.length) (hlo : w0.heap.size ≤ p.g) (hB : B ≤ w0.heap.size) (hT : w.heap[T]? = some (.cells #[p.val] 44 (0, 0))) (hlen : P.length ≤ 100000)
    (h : ∀ v' w', OP w' B v' (P ++ [p]) → w.grownBy w' v.ownBlock → wpList Try.prog ops Q rest (a.put o.dst v') w') : wpList Try.prog ops Q (o :: rest) a w := by
  obtain ⟨v', w', hrun, h1, h2⟩ := OP.app (c := c) o.type h0 hb hp hl hlo hB hT hlen
  refine wpList_plain hgd fun K hK => ?_
  unfold Oper.wp execOp
  simp only [ho, resolve, invoke, builtin, Sem.run_bind, Sem.run_pure, Result.andThen_ok, List.map_toArray, List.map_cons, List.map_nil, hs, hx, hrun]
  exact hK _ _ (h v' w' h1 h2)

/-- What is known of such a row. -/
structure Form (w : World) (B : Nat) (a : Option Addr) (g : Nat) (P : List Pt) : Prop where
  head : 0 < P.length → a = some ⟨g, 0, none⟩
  cell : ∀ i, i < P.length → w.cell? ⟨g, i, none⟩ = some (P.getD i p0).val
  each : ∀ i, i < P.length → Wt w (P.getD i p0).a (P.getD i p0).g (P.getD i p0).l ∧ B ≤ (P.getD i p0).g ∧ 0 < (P.getD i p0).l.length
  diff : ∀ i j, i < P.length → j < P.length → i ≠ j → (P.getD i p0).g ≠ (P.getD j p0).g
  far : ∀ i, i < P.length → (P.getD i p0).g ≠ g
  lo : 0 < P.length → B ≤ g
theorem OP.form {w : World} {B : Nat} {v : Value} {P : List Pt} (h : OP w B v P) : ∃ a g cap, v = .slice a P.length cap ∧ Form w B a g P := by
  have ge : ∀ i, i < P.length → P.getD i p0 ∈ P := fun i hi => by simp [List.getD, hi]
  have df : ∀ i j, i < P.length → j < P.length → i < j → (P.getD i p0).g ≠ (P.getD j p0).g := fun i j hi hj hij => by
    have := List.pairwise_iff_getElem.1 h.diff i j hi hj hij
    simpa [List.getD, hi, hj] using this
  rcases h.own.2 with ⟨rfl, e⟩ | ⟨g, cap, cur, rfl, hb, hh, hn, _, hz, ht⟩
  · have : P = [] := List.eq_nil_of_length_eq_zero e
    subst this
    exact ⟨none, 0, 0, rfl, ⟨fun h => by simp at h, fun i h => by simp at h, fun i h => by simp at h, fun i j h => by simp at h, fun i h => by simp at h, fun h => by simp at h⟩⟩
  · refine ⟨some ⟨g, 0, none⟩, g, cap, rfl, ⟨fun _ => rfl, fun i hi => ?_, fun i hi => h.each _ (ge i hi), fun i j hi hj hij => ?_, fun i hi e => h.far _ (ge i hi) (by rw [e]; rfl), fun _ => hb⟩⟩
    · have e : (cur.toList.take (P.length * 1))[i]? = (P.map Pt.val)[i]? := by rw [ht]
      rw [List.getElem?_take, if_pos (by omega)] at e
      simp only [World.cell?, hh]
      simp [hi] at e
      simp [List.getD, hi, e]
    · rcases Nat.lt_or_ge i j with h1 | h1
      · exact df i j hi hj h1
      · exact fun e => df j i hj hi (by omega) e.symm
theorem Form.keep {w w' : World} {B : Nat} {a : Option Addr} {g : Nat} {P : List Pt} (h : Form w B a g P) (hk : ∀ x, x < w.heap.size → B ≤ x → w'.heap[x]? = w.heap[x]?) : Form w' B a g P :=
  ⟨h.head, fun i hi => (World.cell?_of_block (hk g (World.block_lt_of_cell? _ _ (h.cell i hi)) (h.lo (by omega)))).trans (h.cell i hi), fun i hi => ⟨wt_keep (h.each i hi).1 fun hl => hk _ (wt_lt (h.each i hi).1 hl) (h.each i hi).2.1, (h.each i hi).2⟩, h.diff, h.far, h.lo⟩
theorem Form.below {w w' : World} {B : Nat} {a : Option Addr} {g : Nat} {P : List Pt} (h : Form w B a g P) (hb : Below w.heap.size w w') : Form w' B a g P := h.keep fun x hx _ => hb.block x hx
theorem Form.rd {w : World} {B : Nat} {a : Option Addr} {g : Nat} {P : List Pt} (h : Form w B a g P) (i : Nat) (hi : i < P.length) : Rd w (P.getD i p0).a (P.getD i p0).g 0 (P.getD i p0).l := (h.each i hi).1.rd

theorem eqPart_any (a a' : Option Addr) (b off cap b' off' cap' : Nat) (l m : List Int) (w : World) (h : Rd w a b off l) (h' : Rd w a' b' off' m) :
    Calls Try.prog 101 #[.agg #[.slice a l.length cap], .agg #[.slice a' m.length cap']] w fun e w' => e = .returned (.bool (decide (l = m))) ∧ Below w.heap.size w w' := by
  have B := Rw.next (below_alloc1 w (.cells #[.slice a l.length cap] 44)) (below_alloc1 _ (.cells #[.slice a' m.length cap'] 44))
  have hr := h.below B
  have hr' := h'.below B
  obtain ⟨R, hR⟩ : ∃ R, R = decide (l = m) := ⟨_, rfl⟩
  have hc := eqByteS_any a a' b off cap b' off' cap' l m _ hr hr'
  rw [← hR] at hc ⊢
  clear hR
  cases R
  all_goals
    go_enter Try.func101, Try.ntmps101
    go_wp2_with (go_at_call 25; refine hc.mono ?_; rintro e w' ⟨rfl, hb⟩)
    go_ret
    exact ⟨rfl, Rw.next B hb⟩

/-- Both rows have the same bytes. -/
def Like (P P' : List Pt) : Prop := P.map Pt.l = P'.map Pt.l
theorem Like.len {P P' : List Pt} (h : Like P P') : P.length = P'.length := by have := congrArg List.length h; simpa using this
theorem Like.at {P P' : List Pt} (h : Like P P') (i : Nat) : (P.getD i p0).l = (P'.getD i p0).l := by
  have e : (P.map Pt.l).getD i p0.l = (P'.map Pt.l).getD i p0.l := by rw [h]
  simpa [List.getD, Option.getD_map] using e

set_option maxHeartbeats 4000000 in
theorem eqPartS_same (a a' : Option Addr) (g cap g' cap' B B' : Nat) (P P' : List Pt) (w : World) (h : Form w B a g P) (h' : Form w B' a' g' P') (hl : Like P P') (hs : P.length ≤ 100000) :
    Calls Try.prog 32 #[.slice a P.length cap, .slice a' P'.length cap'] w fun e w' => e = .returned (.bool true) ∧ Below w.heap.size w w' := by
  have e0 := hl.len
  have h1 := h'
  rw [← e0]
  have hd := h.head
  have hd' := h'.head
  rw [← e0] at hd'
  have CL : Hid (Form w B a g P) := h
  have CL' : Hid (Form w B' a' g' P') := h'
  obtain ⟨n, hn⟩ : ∃ n, n = P.length := ⟨_, rfl⟩
  have HN : Hid (n = P.length) := hn
  rw [← hn] at hd hd' hs ⊢
  clear h h' h1 hn
  go_enter Try.func32, Try.ntmps32
  go_wp2
  go_loopw [5] (fun i wr => ∃ k : Nat, k ≤ n ∧ i = .int .i64 k ∧ Below w.heap.size w wr) (fun i _ => n - (intOf i).toNat)
  case atStart => exact ⟨0, Nat.zero_le _, rfl, Below.refl _ _⟩
  case round =>
    obtain ⟨k, hk, rfl, hbel⟩ := hrel
    by_cases hlt : k < n
    · have hkz : (k : Int) < (n : Int) := by omega
      obtain rfl := hd (by omega)
      obtain rfl := hd' (by omega)
      have f1 := CL.out.below hbel
      have f2 := CL'.out.below hbel
      have hk1 : k < P.length := by have := HN.out; omega
      have hk2 : k < P'.length := by omega
      have c1 := f1.cell k hk1
      have c2 := f2.cell k hk2
      have r1 := f1.rd k hk1
      have r2 := f2.rd k hk2
      have el := hl.at k
      simp only [Pt.val] at c1 c2
      generalize P.getD k p0 = p at *
      generalize P'.getD k p0 = p' at *
      obtain ⟨a1, g1, cp1, l1⟩ := p
      obtain ⟨a2, g2, cp2, l2⟩ := p'
      simp only at c1 c2 r1 r2 el
      subst el
      have hc : ∀ W, Below wr.heap.size wr W → Calls Try.prog 101 #[.agg #[.slice a1 l1.length cp1], .agg #[.slice a2 l1.length cp2]] W fun e w' => e = .returned (.bool true) ∧ Below W.heap.size W w' := fun W hW => by
        have := eqPart_any a1 a2 g1 0 cp1 g2 0 cp2 l1 l1 W (r1.below hW) (r2.below hW)
        rw [decide_eq_true rfl] at this
        exact this
      clear f1 f2 hk1 hk2
      go_wp2
      go_region_with (go_at_call 101; refine (hc _ (by first | exact Below.refl _ _ | exact (Below.refl _ _).drew)).mono ?_; rintro e w1 ⟨rfl, hb⟩)
      all_goals
        go_wp2
        go_roundw
        case rel => exact ⟨k + 1, by omega, by go_num, Rw.next hbel (by first | exact hb | exact Rw.next ((Below.refl _ _).drew) hb)⟩
        case measure => simp [intOf]; omega
    · have he : k = n := by omega
      subst he
      go_wp2
      go_ret
      exact ⟨rfl, hbel⟩

end Go.Proofs.Ytcbhpmgjmpbpmaa.Gp
namespace Go.Proofs.Ytcbhpmgjmpbpmaa.Gp
open Go Go.RowKit
set_option maxRecDepth 8000
set_option linter.unusedSimpArgs false
set_option linter.unusedVariables false
open Num Pl Rw Mk Mf Un App Gd Ea Em

/-- How many bytes the first k parts have. -/
def kP (P : List Pt) : Nat → Nat
  | 0 => 0
  | k + 1 => kP P k + (P.getD k p0).l.length
theorem kP_mono (P : List Pt) {i j : Nat} (h : i ≤ j) : kP P i ≤ kP P j := by
  induction j with
  | zero => have : i = 0 := by omega
            subst this; exact Nat.le_refl _
  | succ j ih => rcases Nat.lt_or_ge i (j + 1) with h1 | h1
                 · have := ih (by omega); simp only [kP]; omega
                 · have : i = j + 1 := by omega
                   subst this; exact Nat.le_refl _
def UseP (P : List Pt) : Nat → Prop := fun x => ∃ i, i < P.length ∧ x = (P.getD i p0).g
/-- The row of parts stands at g, the first m of them marked from k0 on. -/
structure MkP (w : World) (a : Option Addr) (g : Nat) (P : List Pt) (k0 : Int) (m : Nat) : Prop where
  cell : ∀ i, i < P.length → w.cell? ⟨g, i, none⟩ = some (P.getD i p0).val
  done : ∀ i, i < P.length → i < m → Wt w (P.getD i p0).a (P.getD i p0).g (marksB (k0 + (kP P i : Int)) (P.getD i p0).l.length)
  left : ∀ i, i < P.length → m ≤ i → Wt w (P.getD i p0).a (P.getD i p0).g (P.getD i p0).l
theorem MkP.start {w : World} {B : Nat} {a : Option Addr} {g : Nat} {P : List Pt} (h : Form w B a g P) (k0 : Int) : MkP w a g P k0 0 :=
  ⟨h.cell, fun i _ h => by omega, fun i hi _ => (h.each i hi).1⟩
theorem MkP.step {w w' : World} {B : Nat} {a : Option Addr} {g m : Nat} {P : List Pt} {k0 : Int} {w0 : World} (F : Form w0 B a g P) (h : MkP w a g P k0 m) (hm : m < P.length) (hk : Kept (P.getD m p0).g (P.getD m p0).l.length w w')
    (hn : Wt w' (P.getD m p0).a (P.getD m p0).g (marksB (k0 + (kP P m : Int)) (P.getD m p0).l.length)) : MkP w' a g P k0 (m + 1) := by
  refine ⟨fun i hi => ?_, fun i hi h1 => ?_, fun i hi h1 => ?_⟩
  · exact (World.cell?_of_block (hk.block g (World.block_lt_of_cell? _ _ (h.cell i hi)) (.inr fun e => F.far m hm e.symm))).trans (h.cell i hi)
  · by_cases e : i = m
    · subst e; exact hn
    · exact wt_kept hk (h.done i hi (by omega)) (.inr (.inr (F.diff i m hi hm e)))
  · exact wt_kept hk (h.left i hi (by omega)) (.inr (.inr (F.diff i m hi hm (by omega))))
theorem MkP.keep {w w' : World} {a : Option Addr} {g m : Nat} {P : List Pt} {k0 : Int} (h : MkP w a g P k0 m) (hg : 0 < P.length → w'.heap[g]? = w.heap[g]?) (hk : ∀ i, i < P.length → w'.heap[(P.getD i p0).g]? = w.heap[(P.getD i p0).g]?) : MkP w' a g P k0 m :=
  ⟨fun i hi => (World.cell?_of_block (hg (by omega))).trans (h.cell i hi), fun i hi h1 => wt_keep (h.done i hi h1) fun _ => hk i hi, fun i hi h1 => wt_keep (h.left i hi h1) fun _ => hk i hi⟩

set_option maxHeartbeats 4000000 in
theorem markPartS_any (k0 : Int) (h0 : 0 ≤ k0) (a : Option Addr) (g cap B : Nat) (P : List Pt) (w : World) (F : Form w B a g P) (hs : P.length ≤ 100000) (h1 : k0 + (kP P P.length : Int) ≤ 100000000000) :
    Calls Try.prog 33 #[.slice a P.length cap, .int .i64 k0] w fun e w' => e = .returned (.int .i64 (k0 + (kP P P.length : Int))) ∧ KeptP (UseP P) w w' ∧ MkP w' a g P k0 P.length := by
  have hd := F.head
  have FF : Hid (Form w B a g P) := F
  have M0 : Hid (MkP w a g P k0 0) := MkP.start F k0
  obtain ⟨n, hn⟩ : ∃ n, n = P.length := ⟨_, rfl⟩
  have HN : Hid (n = P.length) := hn
  rw [← hn] at hd hs h1 ⊢
  clear F hn
  go_enter Try.func33, Try.ntmps33
  go_wp2
  go_loopw [1, 5] (fun q i wr => ∃ k : Nat, k ≤ n ∧ i = .int .i64 k ∧ q = .int .i64 (k0 + (kP P k : Int)) ∧ KeptP (UseP P) w wr ∧ MkP wr a g P k0 k) (fun _ i _ => n - (intOf i).toNat)
  case atStart => exact ⟨0, Nat.zero_le _, rfl, by simp [kP], KeptP.refl _ _, M0.out⟩
  case round =>
    obtain ⟨k, hk, rfl, rfl, hkp, hmk⟩ := hrel
    by_cases hlt : k < n
    · have hkz : (k : Int) < (n : Int) := by omega
      obtain rfl := hd (by omega)
      have hk1 : k < P.length := by have := HN.out; omega
      have c1 := hmk.cell k hk1
      have l1 := hmk.left k hk1 (Nat.le_refl _)
      have tm := kP_mono P (i := k) (j := n) (by omega)
      have hstep : ∀ w', Kept (P.getD k p0).g (P.getD k p0).l.length wr w' → Wt w' (P.getD k p0).a (P.getD k p0).g (marksB (k0 + (kP P k : Int)) (P.getD k p0).l.length) → KeptP (UseP P) w w' ∧ MkP w' (some ⟨g, 0, none⟩) g P k0 (k + 1) := fun w' x y =>
        ⟨hkp.trans (KeptP.kept x fun _ => ⟨k, hk1, rfl⟩), MkP.step FF.out hmk hk1 x y⟩
      have ek : (kP P (k + 1) : Int) = (kP P k : Int) + ((P.getD k p0).l.length : Int) := by simp [kP]
      have HE : Hid ((kP P (k + 1) : Int) = (kP P k : Int) + ((P.getD k p0).l.length : Int)) := ek
      have HS : Hid (∀ w', Kept (P.getD k p0).g (P.getD k p0).l.length wr w' → Wt w' (P.getD k p0).a (P.getD k p0).g (marksB (k0 + (kP P k : Int)) (P.getD k p0).l.length) → KeptP (UseP P) w w' ∧ MkP w' (some ⟨g, 0, none⟩) g P k0 (k + 1)) := hstep
      simp only [Pt.val] at c1
      clear hmk hkp ek hstep
      have hc := markB_any (k0 + (kP P k : Int)) (by omega) (by omega) (P.getD k p0).a (P.getD k p0).g (P.getD k p0).c (P.getD k p0).l wr l1
      generalize P.getD k p0 = p at *
      generalize hq : k0 + (kP P k : Int) = q at *
      have HQ : Hid (k0 + (kP P k : Int) = q) := hq
      clear hq
      go_wp2_with (go_at_call 27; refine hc.mono ?_; rintro e w1 ⟨rfl, x, y⟩)
      go_roundw
      case rel => exact ⟨k + 1, by omega, by go_num, by rw [HE.out, ← Int.add_assoc, HQ.out], (HS.out _ x y).1, (HS.out _ x y).2⟩
      case measure => simp [intOf]; omega
    · have he : k = n := by omega
      subst he
      go_wp2
      go_ret
      exact ⟨rfl, hkp, hmk⟩

set_option maxHeartbeats 4000000 in
theorem heldPartS_any (k0 : Int) (h0 : 0 ≤ k0) (a : Option Addr) (g cap : Nat) (P : List Pt) (w : World) (hd : 0 < P.length → a = some ⟨g, 0, none⟩) (F : MkP w a g P k0 P.length) (hs : P.length ≤ 100000) (h1 : k0 + (kP P P.length : Int) ≤ 100000000000) :
    Calls Try.prog 34 #[.slice a P.length cap, .int .i64 k0] w fun e w' => e = .returned (.int .i64 (k0 + (kP P P.length : Int))) ∧ w' = w := by
  have FF : Hid (MkP w a g P k0 P.length) := F
  obtain ⟨n, hn⟩ : ∃ n, n = P.length := ⟨_, rfl⟩
  have HN : Hid (n = P.length) := hn
  rw [← hn] at hd hs h1 ⊢
  clear F hn
  go_enter Try.func34, Try.ntmps34
  go_wp2
  go_loop [1, 5] (fun q i => ∃ k : Nat, k ≤ n ∧ i = .int .i64 k ∧ q = .int .i64 (k0 + (kP P k : Int))) (fun _ i => n - (intOf i).toNat)
  case atStart => exact ⟨0, Nat.zero_le _, rfl, by simp [kP]⟩
  case round =>
    obtain ⟨k, hk, rfl, rfl⟩ := hrel
    by_cases hlt : k < n
    · have hkz : (k : Int) < (n : Int) := by omega
      obtain rfl := hd (by omega)
      have hk1 : k < P.length := by have := HN.out; omega
      have c1 := FF.out.cell k hk1
      have l1 := FF.out.done k hk1 hk1
      have tm := kP_mono P (i := k) (j := n) (by omega)
      have tm1 := kP_mono P (i := k + 1) (j := n) (by omega)
      have HE : Hid ((kP P (k + 1) : Int) = (kP P k : Int) + ((P.getD k p0).l.length : Int)) := by simp [kP, Hid]
      simp only [Pt.val] at c1
      have hc := heldB_any (k0 + (kP P k : Int)) (by omega) (by omega) (P.getD k p0).a (P.getD k p0).g (P.getD k p0).c (P.getD k p0).l.length w l1
      generalize P.getD k p0 = p at *
      generalize hq : k0 + (kP P k : Int) = q at *
      have HQ : Hid (k0 + (kP P k : Int) = q) := hq
      have hq0 : ¬ (q + (p.l.length : Int) < 0) := by omega
      clear hq
      go_wp2_with (go_at_call 28; refine hc.mono ?_; rintro e w1 ⟨rfl, hw⟩; replace hw := hw.symm; subst hw)
      go_round
      case rel => exact ⟨k + 1, by omega, by go_num, by rw [HE.out, ← Int.add_assoc, HQ.out]⟩
      case measure => simp [intOf]; omega
    · have he : k = n := by omega
      subst he
      go_wp2
      go_ret
      exact ⟨rfl, rfl⟩

end Go.Proofs.Ytcbhpmgjmpbpmaa.Gp
namespace Go.Proofs.Ytcbhpmgjmpbpmaa.Gq
open Go Go.RowKit
set_option maxRecDepth 8000
set_option linter.unusedSimpArgs false
set_option linter.unusedVariables false
open Num Pl Rw Mk Un Put App Pr Gp

theorem wpList_zeros {ops : Array Oper} {rest : List Oper} {o : Oper} {a : Act} {w : World} {Q : Exit → Act → World → Prop} (hgd : o.guard = none) (s x : Operand)
    (ho : o.op = .call { callee := .builtin .append, args := #[s, x], argTypes := #[22, 3] }) (n : Nat) (hn : 0 < n) (hm : n ≤ 4194304) (hs : a.eval s = .slice none 0 0) (hx : a.eval x = .int .i64 n)
    (h : ∀ cap w', n ≤ cap → HasI w' w.heap.size (.slice (some ⟨w.heap.size, 0, none⟩) 0 cap) [] → Below w.heap.size w w' → wpList Try.prog ops Q rest (a.put o.dst (.slice (some ⟨w.heap.size, 0, none⟩) n cap)) w') : wpList Try.prog ops Q (o :: rest) a w := by
  obtain ⟨i0, hi, hz0, hz1, hz2⟩ := info_parts info5
  have hrun := Lib.run_append_nil_zeros (P := Try.prog) w 22 3 o.type 5 i0 (.int .u8 0) .i64 .i64 Try.underlying22 Try.underlying3 hi hz0 n hn (by omega) (by omega) (by rw [hz2]; omega)
  refine wpList_plain hgd fun K hK => ?_
  unfold Oper.wp execOp
  simp only [ho, resolve, invoke, builtin, Sem.run_bind, Sem.run_pure, Result.andThen_ok, List.map_toArray, List.map_cons, List.map_nil, hs, hx, hrun]
  have hg := grownCap_ge w n 0 5
  refine hK _ _ (h _ _ hg ⟨?_, by simp⟩ ?_)
  · have := World.ownsRow_made (base := w.heap.size) (size := 1) (e := 5) w.drew (Builtin.zeroCells (Value.int .u8 0).cells n ++ Builtin.zeroCells (Value.int .u8 0).cells (grownCap w n 0 5 - n)) (grownCap w n 0 5) (by simp) (grownCap_le_maxLen w n 0 5 (by unfold maxLen; omega)) (by simp [size_zeroCells, Value.cells]; omega)
    simpa using this
  · exact Rw.next ((Below.refl _ _).drew) (below_alloc1 _ _)

theorem grow_any (n : Nat) (hn : 0 < n) (hm : n ≤ 4194304) (w : World) :
    Calls Try.prog 167 #[.slice none 0 0, .int .i64 n] w fun e w' => ∃ cap, e = .returned (.slice (some ⟨w.heap.size, 0, none⟩) 0 cap) ∧ HasI w' w.heap.size (.slice (some ⟨w.heap.size, 0, none⟩) 0 cap) [] ∧ Below w.heap.size w w' := by
  have h0 : ¬ ((n : Int) < 0) := by omega
  have h1 : (0 : Int) < (n : Int) := by omega
  go_enter Try.func167, Try.ntmps167
  go_wp2_with (at_builtin; refine wpList_zeros rfl (.tmp 20) (.tmp 21) rfl n hn hm rfl (by first | rfl | simp) ?_; intro cap w' hcap hown hb)
  go_ret
  exact ⟨_, rfl, hown, hb⟩
theorem grow_none (w : World) : Calls Try.prog 167 #[.slice none 0 0, .int .i64 0] w fun e w' => e = .returned (.slice none 0 0) ∧ w' = w := by
  go_enter Try.func167, Try.ntmps167
  go_wp2
  go_ret
  exact ⟨rfl, rfl⟩

/-- Bytes in memory of the call's own, with their room. -/
def ResC (w : World) (l : List Int) (e : Ending) (w' : World) : Prop :=
  ∃ a g cap, e = .returned (.slice a l.length cap) ∧ Wt w' a g l ∧ w.heap.size ≤ g ∧ l.length ≤ cap ∧ (a = none → cap = 0) ∧ Below w.heap.size w w'
theorem hasI_room {w : World} {B : Nat} {v : Value} {l : List Int} (h : HasI w B v l) (hs : l.length ≤ 4194304) (hy : Byt l) : ∃ g cap, v = .slice (some ⟨g, 0, none⟩) l.length cap ∧ B ≤ g ∧ Wt w (some ⟨g, 0, none⟩) g l ∧ l.length ≤ cap := by
  obtain ⟨g, cap, rfl, h1, h2⟩ := hasI_form h hs hy
  refine ⟨g, cap, rfl, h1, h2, ?_⟩
  rcases h.1.2 with ⟨e, _⟩ | ⟨g', cap', cur, e, _, _, hn, _⟩
  · simp at e
  · injection e with _ _ e3
    omega
theorem run_nil0 (w : World) (ty : TypeId) (a : Option Addr) (c : Nat) : (Builtin.append_ #[22, 22] ty #[.slice none 0 0, .slice a 0 c]).run Try.prog w = .ok (.slice none 0 0) w := by
  rcases a with _ | a <;> simp [Builtin.append_, go_sem]
theorem wpList_nil0 {ops : Array Oper} {rest : List Oper} {o : Oper} {a : Act} {w : World} {Q : Exit → Act → World → Prop} (hgd : o.guard = none) (s x : Operand)
    (ho : o.op = .call { callee := .builtin .append, args := #[s, x], argTypes := #[22, 22] }) (A : Option Addr) (c : Nat) (hs : a.eval s = .slice none 0 0) (hx : a.eval x = .slice A 0 c)
    (h : wpList Try.prog ops Q rest (a.put o.dst (.slice none 0 0)) w) : wpList Try.prog ops Q (o :: rest) a w := by
  have hrun := run_nil0 w o.type A c
  refine wpList_plain hgd fun K hK => ?_
  unfold Oper.wp execOp
  simp only [ho, resolve, invoke, builtin, Sem.run_bind, Sem.run_pure, Result.andThen_ok, List.map_toArray, List.map_cons, List.map_nil, hs, hx, hrun]
  exact hK _ _ h

set_option maxHeartbeats 4000000 in
theorem concat_nil (T : Nat) (a a' : Option Addr) (c c' : Nat) (w : World) (kT : w.heap[T]? = some (.cells #[.slice a 0 c, .slice a' 0 c'] 22 (0, 0))) :
    Calls Try.prog 77 #[.slice (some ⟨T, 0, none⟩) 2 2] w (ResC w []) := by
  obtain ⟨c0, c1⟩ := Pm.two kT
  have hg := grow_none w
  go_enter Try.func77, Try.ntmps77
  go_wp2
  go_loop [3, 11] (fun q i => ∃ k : Nat, k ≤ 2 ∧ i = .int .i64 k ∧ q = .int .i64 0) (fun _ i => 2 - (intOf i).toNat)
  case atStart => exact ⟨0, by omega, rfl, rfl⟩
  case round =>
    obtain ⟨k, hk, rfl, rfl⟩ := hrel
    by_cases h2 : k = 2
    · subst h2
      go_wp2_with (go_at_call 167; refine hg.mono ?_; rintro e w1 ⟨rfl, hw⟩; replace hw := hw.symm; subst hw)
      go_loop [6, 27] (fun q i => ∃ k : Nat, k ≤ 2 ∧ i = .int .i64 k ∧ q = .slice none 0 0) (fun _ i => 2 - (intOf i).toNat)
      case atStart => exact ⟨0, by omega, rfl, rfl⟩
      case round =>
        obtain ⟨k, hk, rfl, rfl⟩ := hrel
        by_cases h2 : k = 2
        · subst h2
          go_wp2
          go_ret
          exact ⟨none, w.heap.size, 0, rfl, Wt.nil _ _ _, Nat.le_refl _, by simp, fun _ => rfl, Below.refl _ _⟩
        · rcases (by omega : k = 0 ∨ k = 1) with rfl | rfl
          all_goals
            go_wp2_with (at_builtin; refine wpList_nil0 rfl (.tmp 31) (.tmp 32) rfl _ _ rfl rfl ?_)
            go_round
            case rel => first | exact ⟨1, by omega, by first | rfl | go_num, rfl⟩ | exact ⟨2, by omega, by first | rfl | go_num, rfl⟩
            case measure => simp [intOf]
    · rcases (by omega : k = 0 ∨ k = 1) with rfl | rfl
      · go_wp2
        go_round
        case rel => exact ⟨1, by omega, by first | rfl | go_num, by first | rfl | go_num⟩
        case measure => simp [intOf]
      · go_wp2
        go_round
        case rel => exact ⟨2, by omega, by first | rfl | go_num, by first | rfl | go_num⟩
        case measure => simp [intOf]

set_option maxHeartbeats 4000000 in
theorem concat_some (T : Nat) (a a' : Option Addr) (b off c b' off' c' : Nat) (l m : List Int) (w : World) (kT : w.heap[T]? = some (.cells #[.slice a l.length c, .slice a' m.length c'] 22 (0, 0))) (h : Rd w a b off l) (h' : Rd w a' b' off' m)
    (hs : l.length + m.length ≤ 100000) (hp : 0 < l.length + m.length) : Calls Try.prog 77 #[.slice (some ⟨T, 0, none⟩) 2 2] w (ResC w (l ++ m)) := by
  have hg := grow_any (l.length + m.length) hp (by omega) w
  simp only [Int.natCast_add] at hg
  have kl : T < w.heap.size := (Array.getElem?_eq_some_iff.1 kT).1
  obtain ⟨c0, c1⟩ := Pm.two kT
  have z1 : ¬ ((l.length : Int) < 0) := by omega
  have z2 : ¬ ((l.length : Int) + (m.length : Int) < 0) := by omega
  have z3 : (l.length : Int) + (m.length : Int) ≤ 100000 := by omega
  have HP : Hid (0 < l.length + m.length) := hp
  have HS : Hid (l.length + m.length ≤ 100000) := hs
  clear hp hs
  go_enter Try.func77, Try.ntmps77
  go_wp2
  go_loop [3, 11] (fun q i => (i = .int .i64 0 ∧ q = .int .i64 0) ∨ (i = .int .i64 1 ∧ q = .int .i64 (l.length : Int)) ∨ (i = .int .i64 2 ∧ q = .int .i64 ((l.length : Int) + (m.length : Int)))) (fun _ i => 2 - (intOf i).toNat)
  case atStart => exact .inl ⟨rfl, rfl⟩
  case round =>
    rcases hrel with ⟨rfl, rfl⟩ | ⟨rfl, rfl⟩ | ⟨rfl, rfl⟩
    · go_wp2
      go_round
      case rel => exact .inr (.inl ⟨by first | rfl | go_num, by first | rfl | go_num⟩)
      case measure => simp [intOf]
    · go_wp2
      go_round
      case rel => exact .inr (.inr ⟨by first | rfl | go_num, by first | rfl | go_num⟩)
      case measure => simp [intOf]
    · go_wp2_with (go_at_call 167; refine hg.mono ?_; rintro e w1 ⟨cap, rfl, hown, hb⟩)
      go_loopw [6, 27] (fun q i wr => Below w.heap.size w wr ∧ ((i = .int .i64 0 ∧ HasI wr w.heap.size q []) ∨ (i = .int .i64 1 ∧ HasI wr w.heap.size q l) ∨ (i = .int .i64 2 ∧ HasI wr w.heap.size q (l ++ m)))) (fun _ i _ => 2 - (intOf i).toNat)
      case atStart => exact ⟨hb, .inl ⟨rfl, hown⟩⟩
      case round =>
        obtain ⟨hbel, hrel⟩ := hrel
        have k1 := (hbel.block _ kl).trans kT
        have r0 := h.below hbel
        have r1 := h'.below hbel
        have hs1 := hbel.size
        obtain ⟨d0, d1⟩ := Pm.two k1
        clear c0 c1 hown hb
        rcases hrel with ⟨rfl, hown⟩ | ⟨rfl, hown⟩ | ⟨rfl, hown⟩
        · go_wp2_with (at_builtin; refine wpList_app rfl (.tmp 31) (.tmp 32) rfl w.heap.size _ [] l rfl hown a b off c rfl r0 (by have := HS.out; simp; omega) hs1 ?_; intro v' w' hown' hgr; replace hgr := App.below_own hown hbel (Nat.le_refl _) hgr)
          go_roundw
          case rel => exact ⟨hgr, .inr (.inl ⟨by first | rfl | go_num, by simpa using hown'⟩)⟩
          case measure => simp [intOf]
        · go_wp2_with (at_builtin; refine wpList_app rfl (.tmp 31) (.tmp 32) rfl w.heap.size _ l m rfl hown a' b' off' c' rfl r1 (by have := HS.out; omega) hs1 ?_; intro v' w' hown' hgr; replace hgr := App.below_own hown hbel (Nat.le_refl _) hgr)
          go_roundw
          case rel => exact ⟨hgr, .inr (.inr ⟨by first | rfl | go_num, hown'⟩)⟩
          case measure => simp [intOf]
        · have hl : (l ++ m).length ≤ 4194304 := by have := HS.out; simp; omega
          obtain ⟨g, cp, rfl, hg1, hwt, hroom⟩ := hasI_room hown hl (byt_app h.byt h'.byt)
          go_wp2
          go_ret
          exact ⟨some ⟨g, 0, none⟩, g, cp, rfl, hwt, hg1, hroom, fun e => by simp at e, hbel⟩

theorem concat_any (T : Nat) (a a' : Option Addr) (b off c b' off' c' : Nat) (l m : List Int) (w : World) (kT : w.heap[T]? = some (.cells #[.slice a l.length c, .slice a' m.length c'] 22 (0, 0))) (h : Rd w a b off l) (h' : Rd w a' b' off' m)
    (hs : l.length + m.length ≤ 100000) : Calls Try.prog 77 #[.slice (some ⟨T, 0, none⟩) 2 2] w (ResC w (l ++ m)) := by
  rcases Nat.eq_zero_or_pos (l.length + m.length) with h0 | h0
  · obtain rfl : l = [] := List.eq_nil_of_length_eq_zero (by omega)
    obtain rfl : m = [] := List.eq_nil_of_length_eq_zero (by omega)
    exact concat_nil T a a' c c' w kT
  · exact concat_some T a a' b off c b' off' c' l m w kT h h' hs h0

end Go.Proofs.Ytcbhpmgjmpbpmaa.Gq
namespace Go.Proofs.Ytcbhpmgjmpbpmaa.Gq
open Go Go.RowKit
set_option maxRecDepth 8000
set_option linter.unusedSimpArgs false
set_option linter.unusedVariables false
open Num Pl Rw Mk Un Put App Pr Gp

/-- The length that the third and fourth byte tell. -/
def told (s : List Int) : Nat := (Get.acc s 2 2).toNat
/-- How a stream is cut: parts and what is left, or nothing. -/
def cut (s : List Int) : Option (List (List Int) × List Int) :=
  if s.length < 4 then some ([], s)
  else if h : told s < 12 ∨ 300 < told s then none
  else if s.length < told s then some ([], s)
  else (cut (s.drop (told s))).map fun x => (s.take (told s) :: x.1, x.2)
termination_by s.length
decreasing_by simp; omega
theorem cut_short {s : List Int} (h : s.length < 4) : cut s = some ([], s) := by rw [cut, if_pos h]
theorem cut_bad {s : List Int} (h : ¬ s.length < 4) (h1 : told s < 12 ∨ 300 < told s) : cut s = none := by rw [cut, if_neg h, dif_pos h1]
theorem cut_wait {s : List Int} (h : ¬ s.length < 4) (h1 : ¬ (told s < 12 ∨ 300 < told s)) (h2 : s.length < told s) : cut s = some ([], s) := by rw [cut, if_neg h, dif_neg h1, if_pos h2]
theorem cut_more {s : List Int} (h : ¬ s.length < 4) (h1 : ¬ (told s < 12 ∨ 300 < told s)) (h2 : ¬ s.length < told s) : cut s = (cut (s.drop (told s))).map fun x => (s.take (told s) :: x.1, x.2) := by
  rw [cut, if_neg h, dif_neg h1, if_neg h2]
/-- What has been cut so far, and what is left. -/
def Far (s : List Int) (L : List (List Int)) (r : List Int) : Prop := cut s = (cut r).map fun x => (L ++ x.1, x.2)
theorem Far.start (s : List Int) : Far s [] s := by
  unfold Far
  rcases cut s with _ | x
  · rfl
  · simp
theorem Far.more {s r : List Int} {L : List (List Int)} (f : Far s L r) (h : ¬ r.length < 4) (h1 : ¬ (told r < 12 ∨ 300 < told r)) (h2 : ¬ r.length < told r) : Far s (L ++ [r.take (told r)]) (r.drop (told r)) := by
  unfold Far at f ⊢
  rw [f, cut_more h h1 h2]
  rcases cut (r.drop (told r)) with _ | x
  · rfl
  · simp
theorem Far.bad {s r : List Int} {L : List (List Int)} (f : Far s L r) (h : cut r = none) : cut s = none := by
  unfold Far at f
  rw [f, h]; rfl
theorem Far.stop {s r : List Int} {L : List (List Int)} (f : Far s L r) (h : cut r = some ([], r)) : cut s = some (L, r) := by
  unfold Far at f
  rw [f, h]; simp
theorem told_nat {s : List Int} (hy : Byt s) : Get.acc s 2 2 = (told s : Int) := by
  have := (Get.acc_bd s 2 hy 2).1
  unfold told
  omega

/-- What 'Cut' answers: all three. -/
def Answer (hold piece : List Int) : Option (List (List Int) × List Int) := if hold.length > 300 ∨ piece.length > 60000 then none else cut (hold ++ piece)
/-- Parts, what is left and true are handed back, in memory of the call's own; or nothing, nothing and false. -/
def ResQ (w : World) (A : Option (List (List Int) × List Int)) (e : Ending) (w' : World) : Prop :=
  Below w.heap.size w w' ∧ ((A = none ∧ e = .returned (.tuple #[.slice none 0 0, .slice none 0 0, .bool false])) ∨
  ∃ (P : List Pt) (v : Value) (r : List Int) (a : Option Addr) (g cap : Nat), A = some (P.map Pt.l, r) ∧ e = .returned (.tuple #[v, .slice a r.length cap, .bool true]) ∧ OP w' w.heap.size v P ∧ Wt w' a g r ∧ w.heap.size ≤ g ∧ (∀ p ∈ P, 0 < r.length → p.g ≠ g) ∧ (0 < r.length → some g ≠ v.ownBlock) ∧ P.length ≤ 10000 ∧ kP P P.length + r.length ≤ 70000)

theorem told_any (a : Option Addr) (b off cap : Nat) (l : List Int) (w : World) (h : Rd w a b off l) (h4 : ¬ l.length < 4) :
    Calls Try.prog 78 #[.slice a l.length cap] w fun e w' => e = .returned (.int .i64 (told l : Int)) ∧ w' = w := by
  have hc := numAt_yes a b off cap l 2 2 w h (by omega) (by omega) (by omega)
  rw [told_nat h.byt] at hc
  go_enter Try.func78, Try.ntmps78
  go_wp2_with (go_at_call 159; refine hc.mono ?_; rintro e w' ⟨rfl, hw⟩; replace hw := hw.symm; subst hw)
  go_ret
  exact ⟨rfl, rfl⟩
theorem lenOk_any (n : Nat) (w : World) : Calls Try.prog 79 #[.int .i64 n] w fun e w' => e = .returned (.bool (decide (¬ (n < 12 ∨ 300 < n)))) ∧ w' = w := by
  by_cases h1 : n < 12
  · have z1 : ¬ ((12 : Int) ≤ (n : Int)) := by omega
    go_enter Try.func79, Try.ntmps79
    go_wp2
    go_ret
    exact ⟨ret_bool (by simp <;> omega), rfl⟩
  · have z1 : (12 : Int) ≤ (n : Int) := by omega
    by_cases h2 : 300 < n
    · have z2 : ¬ ((n : Int) ≤ 300) := by omega
      go_enter Try.func79, Try.ntmps79
      go_wp2
      go_ret
      exact ⟨ret_bool (by simp <;> omega), rfl⟩
    · have z2 : (n : Int) ≤ 300 := by omega
      go_enter Try.func79, Try.ntmps79
      go_wp2
      go_ret
      exact ⟨ret_bool (by simp <;> omega), rfl⟩

theorem kP_snoc (P : List Pt) (p : Pt) : kP (P ++ [p]) (P.length + 1) = kP P P.length + p.l.length := by
  have h : ∀ k, k ≤ P.length → kP (P ++ [p]) k = kP P k := by
    intro k
    induction k with
    | zero => intro _; rfl
    | succ k ih => intro hk; simp only [kP]; rw [ih (by omega)]; congr 2; simp [List.getD, List.getElem?_append_left (by omega : k < P.length)]
  simp only [kP]
  rw [h _ (Nat.le_refl _)]
  congr 2
  simp [List.getD]

end Go.Proofs.Ytcbhpmgjmpbpmaa.Gq
namespace Go.Proofs.Ytcbhpmgjmpbpmaa.Gq
open Go Go.RowKit
set_option maxRecDepth 8000
set_option linter.unusedSimpArgs false
set_option linter.unusedVariables false
open Num Pl Rw Mk Un Put App Pr Gp

theorem drop_take_len {r : List Int} {n : Nat} (h : n ≤ r.length) : (r.take n).length = n := by simp [Nat.min_eq_left h]
theorem rd_end {w : World} {a : Option Addr} {b off : Nat} {l : List Int} (h : l.length = 0) : Rd w a b off l := by
  obtain rfl := List.eq_nil_of_length_eq_zero h
  exact ⟨fun h => by simp at h, fun i h => by simp at h, by simp, fun n h => by simp at h⟩

/-- What holds of the program's loop. -/
def InvI (w0 : World) (s : List Int) (q v : Value) (wr : World) : Prop :=
  ∃ (r : List Int) (P : List Pt) (a : Option Addr) (b off cap : Nat), q = .slice a r.length cap ∧ Rd w0 a b off r ∧ r.length ≤ cap ∧ (a = none → cap = 0) ∧ OP wr w0.heap.size v P ∧ Below w0.heap.size w0 wr ∧ Far s (P.map Pt.l) r ∧ kP P P.length + r.length = s.length ∧ 12 * P.length + r.length ≤ s.length

theorem finI {w w0 wr w' : World} {s r : List Int} {P : List Pt} {v : Value} {e : Ending} {a : Option Addr} {cap g : Nat} (hb0 : Below w.heap.size w w0) (hop : OP wr w0.heap.size v P) (hbel : Below w0.heap.size w0 wr) (hA : cut s = some (P.map Pt.l, r)) (hk : kP P P.length + r.length = s.length)
    (hl : 12 * P.length + r.length ≤ s.length) (hs : s.length ≤ 60300) (he : e = .returned (.tuple #[v, .slice a r.length cap, .bool true])) (hw : Wt w' a g r) (hg : wr.heap.size ≤ g) (hb : Below wr.heap.size wr w') : ResQ w (cut s) e w' := by
  have hz := hb0.size
  have hop' := hop.below hb
  refine ⟨Rw.next (Rw.next hb0 hbel) hb, .inr ⟨P, v, r, a, g, cap, hA, he, hop'.mono hz, hw, by have := hbel.size; omega, fun p hp _ e => ?_, fun _ e => ?_, by omega, by omega⟩⟩
  · have := hop.lt hp; omega
  · have := (hop.row_lt e.symm).2; omega

theorem stepB {w0 wr w1 w2 : World} {v : Value} {P : List Pt} {o : Obj} (hop : OP wr w0.heap.size v P) (hbel : Below w0.heap.size w0 wr) (hb1 : Below wr.heap.size wr w1) (hgr : (w1.alloc o).grownBy w2 v.ownBlock) : Below w0.heap.size w0 w2 :=
  (hop.below (Rw.next hb1 (below_alloc1 _ o))).grown (Rw.next hbel (Rw.next hb1 (below_alloc1 _ o))) (Nat.le_refl _) hgr

set_option maxHeartbeats 16000000 in
theorem cutI (a a' : Option Addr) (b off c b' off' c' : Nat) (l m : List Int) (w : World) (h : Rd w a b off l) (h' : Rd w a' b' off' m) :
    Calls Try.prog 19 #[.slice a l.length c, .slice a' m.length c'] w (ResQ w (Answer l m)) := by
  by_cases h1 : 300 < l.length
  · have z1 : (300 : Int) < (l.length : Int) := by omega
    have hA : Answer l m = none := by unfold Answer; rw [if_pos (.inl h1)]
    rw [hA]
    go_enter Try.func19, Try.ntmps19
    go_wp2
    go_step3
    go_wp2
    (try rw [Exit.noGoto_ret])
    refine bodyPost_ret (v := .tuple #[.slice none 0 0, .slice none 0 0, .bool false]) (by simp [results, Try.results19, go_sem]) rfl ?_
    exact ⟨Below.refl _ _, .inl ⟨rfl, rfl⟩⟩
  have z1 : ¬ (300 : Int) < (l.length : Int) := by omega
  by_cases h2 : 60000 < m.length
  · have z2 : (60000 : Int) < (m.length : Int) := by omega
    have hA : Answer l m = none := by unfold Answer; rw [if_pos (.inr h2)]
    rw [hA]
    go_enter Try.func19, Try.ntmps19
    go_wp2
    go_step3
    go_wp2
    (try rw [Exit.noGoto_ret])
    refine bodyPost_ret (v := .tuple #[.slice none 0 0, .slice none 0 0, .bool false]) (by simp [results, Try.results19, go_sem]) rfl ?_
    exact ⟨Below.refl _ _, .inl ⟨rfl, rfl⟩⟩
  have z2 : ¬ (60000 : Int) < (m.length : Int) := by omega
  have hA : Answer l m = cut (l ++ m) := by unfold Answer; rw [if_neg (by omega)]
  rw [hA]
  have hlen : (l ++ m).length = l.length + m.length := by simp
  obtain ⟨s, hs⟩ : ∃ s, s = l ++ m := ⟨_, rfl⟩
  have hy : Byt s := by rw [hs]; exact byt_app h.byt h'.byt
  have hsl : s.length ≤ 60300 := by rw [hs, hlen]; omega
  obtain ⟨W0, hW0⟩ : ∃ W0, W0 = w.alloc (.cells #[.slice a l.length c, .slice a' m.length c'] 22) := ⟨_, rfl⟩
  have B0 : Below w.heap.size w W0 := by subst hW0; exact below_alloc1 _ _
  have k0 : W0.heap[w.heap.size]? = some (.cells #[.slice a l.length c, .slice a' m.length c'] 22 (0, 0)) := by subst hW0; exact at_new rfl
  have hc := concat_any w.heap.size a a' b off c b' off' c' l m W0 k0 (h.below B0) (h'.below B0) (by omega)
  rw [← hs] at hc ⊢
  clear hA h1 h2 hlen k0 hs
  have HL : Hid (s.length ≤ 60300) := hsl
  have HY : Hid (Byt s) := hy
  clear hsl hy h h'
  go_enter Try.func19, Try.ntmps19
  go_wp2
  go_step3
  go_wp2_with (go_at_call 77; rw [← hW0]; clear hW0; refine hc.mono ?_; rintro e w0 ⟨a0, g0, cap0, rfl, hw0, hg0, hr0, hn0, hb0⟩)
  replace hb0 := Rw.next B0 hb0
  clear B0 hc z1 z2 hg0
  go_step3
  go_wp2
  go_loopw [7, 8] (fun q v wr => InvI w0 s q v wr) (fun q _ _ => match q with | .slice _ n _ => n | _ => 0)
  case atStart => exact ⟨s, [], a0, g0, 0, cap0, rfl, hw0.rd, hr0, hn0, OP.nil _ _, Below.refl _ _, Far.start s, by simp [kP], by simp⟩
  case round =>
    obtain ⟨r, P, ar, br, offr, capr, rfl, hr, hrc, hrn, hop, hbel, hfar, hk, hkl⟩ := hrel
    have hsl := HL.out
    have rr := hr.below hbel
    have hcl := clone_any ar br offr capr r _ rr hrn
    by_cases h4 : r.length < 4
    · have z4 : ¬ ((4 : Int) ≤ (r.length : Int)) := by omega
      go_wp2_with (go_at_call 80; refine hcl.mono ?_; rintro e w1 ⟨a1, g1, cap1, rfl, hw1, hg1, hn1, hb1⟩)
      (try rw [Exit.noGoto_ret])
      refine bodyPost_ret (v := .tuple #[u8, .slice a1 r.length cap1, .bool true]) (by simp [results, Try.results19, go_sem]) rfl ?_
      exact finI hb0 hop hbel (hfar.stop (cut_short h4)) hk hkl hsl rfl hw1 hg1 hb1
    have z4 : (4 : Int) ≤ (r.length : Int) := by omega
    have htold := told_any ar br offr capr r wr rr h4
    by_cases h5 : told r < 12 ∨ 300 < told r
    · have hok := lenOk_any (told r) wr
      rw [decide_eq_false (by omega)] at hok
      have hbad := hfar.bad (cut_bad h4 h5)
      generalize told r = n at *
      go_wp2_with (first
        | (go_at_call 78; refine htold.mono ?_; rintro e w1 ⟨rfl, hw⟩; replace hw := hw.symm; subst hw)
        | (go_at_call 79; refine hok.mono ?_; rintro e w1 ⟨rfl, hw⟩; replace hw := hw.symm; subst hw))
      (try rw [Exit.noGoto_ret])
      refine bodyPost_ret (v := .tuple #[.slice none 0 0, .slice none 0 0, .bool false]) (by simp [results, Try.results19, go_sem]) rfl ?_
      exact ⟨Rw.next hb0 hbel, .inl ⟨hbad, rfl⟩⟩
    have hok := lenOk_any (told r) wr
    rw [decide_eq_true h5] at hok
    by_cases h6 : r.length < told r
    · have hstop := hfar.stop (cut_wait h4 h5 h6)
      have z6 : (r.length : Int) < (told r : Int) := by omega
      generalize told r = n at *
      go_wp2_with (first
        | (go_at_call 78; refine htold.mono ?_; rintro e w1 ⟨rfl, hw⟩; replace hw := hw.symm; subst hw)
        | (go_at_call 79; refine hok.mono ?_; rintro e w1 ⟨rfl, hw⟩; replace hw := hw.symm; subst hw)
        | (go_at_call 80; refine hcl.mono ?_; rintro e w1 ⟨a1, g1, cap1, rfl, hw1, hg1, hn1, hb1⟩))
      (try rw [Exit.noGoto_ret])
      refine bodyPost_ret (v := .tuple #[u8, .slice a1 r.length cap1, .bool true]) (by simp [results, Try.results19, go_sem]) rfl ?_
      exact finI hb0 hop hbel hstop hk hkl hsl rfl hw1 hg1 hb1
    have hmore := hfar.more h4 h5 h6
    obtain ⟨n, hn⟩ : ∃ n, n = told r := ⟨_, rfl⟩
    rw [← hn] at htold h5 hok h6 hmore
    have z6 : ¬ (r.length : Int) < (n : Int) := by omega
    have z7 : (n : Int) ≤ (capr : Int) := by omega
    have z8 : (n : Int) ≤ (r.length : Int) := by omega
    have z9 : (r.length : Int) ≤ (capr : Int) := by omega
    obtain rfl := hr.head (by omega)
    have hd := rd_drop hr n
    have rt := rd_take rr n
    have htl : (r.take n).length = n := drop_take_len (by omega)
    obtain ⟨t, ht0⟩ : ∃ t, t = r.take n := ⟨_, rfl⟩
    obtain ⟨y, hy0⟩ : ∃ y, y = r.drop n := ⟨_, rfl⟩
    have hyl : y.length = r.length - n := by rw [hy0]; simp
    rw [← ht0] at rt htl hmore
    rw [← hy0] at hd hmore
    have ht := clone_any (some ⟨br, offr, none⟩) br offr capr t wr rt (by simp)
    rw [htl] at ht
    have HT : Hid (t.length = n) := htl
    have HY2 : Hid (y.length = r.length - n) := hyl
    have hlt : 0 < n ∧ n ≤ r.length := by omega
    have HD : Hid (0 < n ∧ n ≤ r.length) := hlt
    clear hcl hn htl ht0 hy0 hyl
    by_cases hc : n = capr
    · subst hc
      have HE1 : Hid (r.length = n) := (by omega : r.length = n)
      go_wp2_with (first
        | (go_at_call 78; refine htold.mono ?_; rintro e w1 ⟨rfl, hw⟩; replace hw := hw.symm; subst hw)
        | (go_at_call 79; refine hok.mono ?_; rintro e w1 ⟨rfl, hw⟩; replace hw := hw.symm; subst hw)
        | (go_at_call 80; refine ht.mono ?_; rintro e w1 ⟨a1, g1, cap1, rfl, hw1, hg1, hn1, hb1⟩)
        | (at_builtin; refine wpList_appP (w0 := wr) rfl (.tmp 36) (.tmp 42) rfl w0.heap.size _ _ _ P ⟨a1, g1, cap1, t⟩ rfl rfl hop (Rw.next hb1 (below_alloc1 _ _)) (hw1.below (below_alloc1 _ _)) (by have := HT.out; have := HD.out; simp only; omega) hg1 (by have := hbel.size; omega) (at_new rfl) (by omega) ?_; intro v' w2 hop2 hgr))
      have hB := stepB hop hbel hb1 hgr
      go_roundw
      case rel =>
        have e3 := HY2.out
        have e2 : y.length = 0 := by have := HE1.out; omega
        refine ⟨y, P ++ [⟨a1, g1, cap1, t⟩], some ⟨br, offr, none⟩, br, offr, 0, by first | rfl | (rw [e2]) | (rw [e3]) | (rw [e3]; simp) | (rw [e2, HE1.out]; simp), rd_end e2, by omega, fun e => by simp at e, hop2, hB, by simpa using hmore, ?_, ?_⟩
        · rw [List.length_append, List.length_singleton, kP_snoc]; have := HT.out; have := HY2.out; have := HD.out; simp only; omega
        · simp only [List.length_append, List.length_cons, List.length_nil]; have := HD.out; omega
      case measure => simp; omega
    · have zc : ¬ (n : Int) = (capr : Int) := by omega
      go_wp2_with (first
        | (go_at_call 78; refine htold.mono ?_; rintro e w1 ⟨rfl, hw⟩; replace hw := hw.symm; subst hw)
        | (go_at_call 79; refine hok.mono ?_; rintro e w1 ⟨rfl, hw⟩; replace hw := hw.symm; subst hw)
        | (go_at_call 80; refine ht.mono ?_; rintro e w1 ⟨a1, g1, cap1, rfl, hw1, hg1, hn1, hb1⟩)
        | (at_builtin; refine wpList_appP (w0 := wr) rfl (.tmp 36) (.tmp 42) rfl w0.heap.size _ _ _ P ⟨a1, g1, cap1, t⟩ rfl rfl hop (Rw.next hb1 (below_alloc1 _ _)) (hw1.below (below_alloc1 _ _)) (by have := HT.out; have := HD.out; simp only; omega) hg1 (by have := hbel.size; omega) (at_new rfl) (by omega) ?_; intro v' w2 hop2 hgr))
      have hB := stepB hop hbel hb1 hgr
      go_roundw
      case rel =>
        have e2 := HY2.out
        refine ⟨y, P ++ [⟨a1, g1, cap1, t⟩], some ⟨br, offr + n, none⟩, br, offr + n, capr - n, by first | rfl | (rw [e2]), hd, by omega, fun e => by simp at e, hop2, hB, by simpa using hmore, ?_, ?_⟩
        · rw [List.length_append, List.length_singleton, kP_snoc]; have := HT.out; have := HY2.out; have := HD.out; simp only; omega
        · simp only [List.length_append, List.length_cons, List.length_nil]; have := HD.out; omega
      case measure => have := HD.out; simp; omega

end Go.Proofs.Ytcbhpmgjmpbpmaa.Gq
namespace Go.Proofs.Ytcbhpmgjmpbpmaa.Gq
open Go Go.RowKit
set_option maxRecDepth 8000
set_option linter.unusedSimpArgs false
set_option linter.unusedVariables false
open Num Pl Rw Mk Un Put App Pr Gp

theorem op_hasI {w : World} {B B' : Nat} {v q : Value} {P : List Pt} {l : List Int} (h : OP w B v P) (k : HasI w B' q l) {g : Nat} (hg : q.ownBlock = some g) : some g ≠ v.ownBlock := by
  intro e
  rcases k.1.2 with ⟨rfl, _⟩ | ⟨g1, cap, cur, rfl, _, hh, _⟩
  · exact k.2 rfl
  rcases h.own.2 with ⟨rfl, _⟩ | ⟨g2, cap2, cur2, rfl, _, hh2, _⟩
  · simp [Value.ownBlock] at e
  · simp [Value.ownBlock] at e hg
    subst e hg
    rw [hh] at hh2
    simp at hh2
theorem hasI_keep {w w' : World} {B : Nat} {q : Value} {l : List Int} (k : HasI w B q l) (hk : ∀ g, q.ownBlock = some g → w'.heap[g]? = w.heap[g]?) : HasI w' B q l := by
  refine ⟨⟨k.1.1, ?_⟩, k.2⟩
  rcases k.1.2 with h | ⟨g1, cap, cur, rfl, hb, hh, rest⟩
  · exact .inl h
  · exact .inr ⟨g1, cap, cur, rfl, hb, (hk g1 rfl).trans hh, rest⟩
theorem hasI_lt {w : World} {B : Nat} {q : Value} {l : List Int} (k : HasI w B q l) {g : Nat} (hg : q.ownBlock = some g) : B ≤ g ∧ g < w.heap.size := k.1.lt g (by simpa using hg)

theorem rd_blk {w w' : World} {a : Option Addr} {b off : Nat} {l : List Int} (h : Rd w a b off l) (e : w'.heap[b]? = w.heap[b]?) : Rd w' a b off l :=
  ⟨h.head, fun i hi => (World.cell?_of_block e).trans (h.cell i hi), h.size, h.byt⟩
theorem kept_blk {wr w1 w2 : World} {v : Value} {o : Obj} {g : Nat} (hg : g < wr.heap.size) (hb1 : Below wr.heap.size wr w1) (hgr : (w1.alloc o).grownBy w2 v.ownBlock) (hne : some g ≠ v.ownBlock) : w2.heap[g]? = wr.heap[g]? :=
  (hgr.block g (Nat.lt_of_lt_of_le hg (Nat.le_trans hb1.size (below_alloc1 w1 o).size)) hne).trans (((below_alloc1 w1 o).block g (Nat.lt_of_lt_of_le hg hb1.size)).trans (hb1.block g hg))
/-- What holds of the specification's loop. -/
def InvS (w : World) (s : List Int) (q v : Value) (wr : World) : Prop :=
  ∃ (r : List Int) (P : List Pt), HasI wr w.heap.size q r ∧ OP wr w.heap.size v P ∧ (∀ p ∈ P, some p.g ≠ q.ownBlock) ∧ Below w.heap.size w wr ∧ Byt r ∧ Far s (P.map Pt.l) r ∧ kP P P.length + r.length = s.length ∧ 12 * P.length + r.length ≤ s.length

theorem finS {w wr : World} {s r : List Int} {P : List Pt} {v : Value} {g cap : Nat} (hop : OP wr w.heap.size v P) (hq : HasI wr w.heap.size (.slice (some ⟨g, 0, none⟩) r.length cap) r) (hd : ∀ p ∈ P, some p.g ≠ (Value.slice (some ⟨g, 0, none⟩) r.length cap).ownBlock) (hbel : Below w.heap.size w wr) (hA : cut s = some (P.map Pt.l, r))
    (hk : kP P P.length + r.length = s.length) (hl : 12 * P.length + r.length ≤ s.length) (hs : s.length ≤ 60300) (hw : Wt wr (some ⟨g, 0, none⟩) g r) : ResQ w (cut s) (.returned (.tuple #[v, .slice (some ⟨g, 0, none⟩) r.length cap, .bool true])) wr := by
  refine ⟨hbel, .inr ⟨P, v, r, some ⟨g, 0, none⟩, g, cap, hA, rfl, hop, hw, (hasI_lt hq rfl).1, fun p hp _ e => hd p hp (by rw [e]; rfl), fun _ => op_hasI hop hq rfl, by omega, by omega⟩⟩

set_option maxHeartbeats 16000000 in
theorem cutS (a a' : Option Addr) (b off c b' off' c' : Nat) (l m : List Int) (w : World) (h : Rd w a b off l) (h' : Rd w a' b' off' m) :
    Calls Try.prog 20 #[.slice a l.length c, .slice a' m.length c'] w (ResQ w (Answer l m)) := by
  by_cases h1 : 300 < l.length
  · have z1 : (300 : Int) < (l.length : Int) := by omega
    have hA : Answer l m = none := by unfold Answer; rw [if_pos (.inl h1)]
    rw [hA]
    go_enter Try.func20, Try.ntmps20
    go_wp2
    refine bodyPost_ret (v := .tuple #[.slice none 0 0, .slice none 0 0, .bool false]) (by simp [results, Try.results20, go_sem]) rfl ?_
    exact ⟨Below.refl _ _, .inl ⟨rfl, rfl⟩⟩
  have z1 : ¬ (300 : Int) < (l.length : Int) := by omega
  by_cases h2 : 60000 < m.length
  · have z2 : (60000 : Int) < (m.length : Int) := by omega
    have hA : Answer l m = none := by unfold Answer; rw [if_pos (.inr h2)]
    rw [hA]
    go_enter Try.func20, Try.ntmps20
    go_wp2
    refine bodyPost_ret (v := .tuple #[.slice none 0 0, .slice none 0 0, .bool false]) (by simp [results, Try.results20, go_sem]) rfl ?_
    exact ⟨Below.refl _ _, .inl ⟨rfl, rfl⟩⟩
  have z2 : ¬ (60000 : Int) < (m.length : Int) := by omega
  have hA : Answer l m = cut (l ++ m) := by unfold Answer; rw [if_neg (by omega)]
  rw [hA]
  have hlen : (l ++ m).length = l.length + m.length := by simp
  obtain ⟨s, hs⟩ : ∃ s, s = l ++ m := ⟨_, rfl⟩
  have hy : Byt s := by rw [hs]; exact byt_app h.byt h'.byt
  have hsl : s.length ≤ 60300 := by rw [hs, hlen]; omega
  have HS : Hid (s = l ++ m) := hs
  have HL2 : Hid (l.length ≤ 300 ∧ m.length ≤ 60000) := ⟨by omega, by omega⟩
  rw [← hs]
  clear hA h1 h2 hlen hs
  have HL : Hid (s.length ≤ 60300) := hsl
  have HY : Hid (Byt s) := hy
  clear hsl hy
  have O0 := own_empty w
  have B0 := below_alloc1 w (.cells #[] 5)
  have R0 := h.below B0
  go_enter Try.func20, Try.ntmps20
  go_wp2_with (first
    | (at_builtin; refine wpList_app rfl (.tmp 19) (.tmp 20) rfl w.heap.size _ [] l rfl O0 a b off c rfl R0 (by have := HL2.out; simp; omega) (by simp) ?_; intro v1 w1 own1 gr1; replace gr1 := App.below_own O0 B0 (Nat.le_refl _) gr1; replace own1 : HasI w1 w.heap.size v1 l := (by simpa using own1); have R1 := h'.below gr1; have L1 := gr1.size)
    | (at_builtin; refine wpList_app rfl (.tmp 21) (.tmp 22) rfl w.heap.size _ l m rfl own1 a' b' off' c' rfl R1 (by have := HL2.out; omega) L1 ?_; intro v2 w2 own2 gr2; replace gr2 := App.below_own own1 gr1 (Nat.le_refl _) gr2))
  rw [← HS.out] at own2
  clear O0 B0 R0 R1 L1 own1 gr1 z1 z2
  go_loopw [7, 8] (fun q v wr => InvS w s q v wr) (fun q _ _ => match q with | .slice _ n _ => n | _ => 0)
  case atStart =>
    have hb2 := below_alloc1 w2 (.cells #[] 44)
    refine ⟨s, [], hasI_below own2 hb2, (OP.empty w2).mono gr2.size, fun p hp => by simp at hp, Rw.next gr2 hb2, HY.out, Far.start s, by simp [kP], by simp⟩
  case round =>
    obtain ⟨r, P, hq, hop, hdf, hbel, hyr, hfar, hk, hkl⟩ := hrel
    have hsl := HL.out
    obtain ⟨gq, capq, rfl, hgq, hwq, hrc⟩ := hasI_room hq (by omega) hyr
    have rr := hwq.rd
    by_cases h4 : r.length < 4
    · have z4 : ¬ ((4 : Int) ≤ (r.length : Int)) := by omega
      go_wp2
      refine bodyPost_ret (v := .tuple #[u8, .slice (some ⟨gq, 0, none⟩) r.length capq, .bool true]) (by simp [results, Try.results20, go_sem]) rfl ?_
      exact finS hop hq hdf hbel (hfar.stop (cut_short h4)) hk hkl hsl hwq
    have z4 : (4 : Int) ≤ (r.length : Int) := by omega
    have htold := Get.specGet_yes (some ⟨gq, 0, none⟩) gq 0 capq r 2 2 wr rr (by omega) (by omega) (by omega)
    rw [told_nat hyr] at htold
    by_cases h5 : told r < 12
    · have hbad := hfar.bad (cut_bad h4 (.inl h5))
      have z5 : (told r : Int) < 12 := by omega
      generalize told r = n at *
      go_wp2_with (go_at_call 81; refine htold.mono ?_; rintro e w1 ⟨rfl, hw⟩; replace hw := hw.symm; subst hw)
      refine bodyPost_ret (v := .tuple #[.slice none 0 0, .slice none 0 0, .bool false]) (by simp [results, Try.results20, go_sem]) rfl ?_
      exact ⟨hbel, .inl ⟨hbad, rfl⟩⟩
    have z5 : ¬ (told r : Int) < 12 := by omega
    by_cases h5b : 300 < told r
    · have hbad := hfar.bad (cut_bad h4 (.inr h5b))
      have z5b : (300 : Int) < (told r : Int) := by omega
      generalize told r = n at *
      go_wp2_with (go_at_call 81; refine htold.mono ?_; rintro e w1 ⟨rfl, hw⟩; replace hw := hw.symm; subst hw)
      refine bodyPost_ret (v := .tuple #[.slice none 0 0, .slice none 0 0, .bool false]) (by simp [results, Try.results20, go_sem]) rfl ?_
      exact ⟨hbel, .inl ⟨hbad, rfl⟩⟩
    have z5b : ¬ (300 : Int) < (told r : Int) := by omega
    by_cases h6 : r.length < told r
    · have hstop := hfar.stop (cut_wait h4 (by omega) h6)
      have z6 : (r.length : Int) < (told r : Int) := by omega
      generalize told r = n at *
      go_wp2_with (go_at_call 81; refine htold.mono ?_; rintro e w1 ⟨rfl, hw⟩; replace hw := hw.symm; subst hw)
      refine bodyPost_ret (v := .tuple #[u8, .slice (some ⟨gq, 0, none⟩) r.length capq, .bool true]) (by simp [results, Try.results20, go_sem]) rfl ?_
      exact finS hop hq hdf hbel hstop hk hkl hsl hwq
    have hmore := hfar.more h4 (by omega) h6
    obtain ⟨n, hn⟩ : ∃ n, n = told r := ⟨_, rfl⟩
    rw [← hn] at htold h5 h5b z5 z5b h6 hmore
    have z6 : ¬ (r.length : Int) < (n : Int) := by omega
    have z7 : (n : Int) ≤ (capq : Int) := by omega
    have z8 : (n : Int) ≤ (r.length : Int) := by omega
    have z9 : (r.length : Int) ≤ (capq : Int) := by omega
    have hd := rd_drop rr n
    simp only [Nat.zero_add] at hd
    have rt := rd_take rr n
    have htl : (r.take n).length = n := drop_take_len (by omega)
    obtain ⟨t, ht0⟩ : ∃ t, t = r.take n := ⟨_, rfl⟩
    obtain ⟨y, hy0⟩ : ∃ y, y = r.drop n := ⟨_, rfl⟩
    have hyl : y.length = r.length - n := by rw [hy0]; simp
    have tby : Byt t := by rw [ht0]; exact fun x hx => hyr x (List.mem_of_mem_take hx)
    have yby : Byt y := by rw [hy0]; exact fun x hx => hyr x (List.mem_of_mem_drop hx)
    rw [← ht0] at rt htl hmore
    rw [← hy0] at hd hmore
    have HT : Hid (t.length = n) := htl
    have HY2 : Hid (y.length = r.length - n) := hyl
    have HD : Hid (12 ≤ n ∧ n ≤ r.length) := ⟨by omega, by omega⟩
    have Oe := own_empty wr
    have Be := below_alloc1 wr (.cells #[] 5)
    have Rt := rt.below Be
    clear hn htl ht0 hy0 hyl rt
    by_cases hc : n = capq
    · subst hc
      have HE1 : Hid (r.length = n) := (by omega : r.length = n)
      have hdq : Rd wr (some ⟨gq, 0, none⟩) gq 0 y := rd_end (by have := HE1.out; have := HY2.out; omega)
      go_wp2_with (first
        | (go_at_call 81; refine htold.mono ?_; rintro e w1 ⟨rfl, hw⟩; replace hw := hw.symm; subst hw)
        | (at_builtin; refine wpList_app rfl (.tmp 44) (.tmp 47) rfl wr.heap.size _ [] t rfl Oe (some ⟨gq, 0, none⟩) gq 0 n (by rw [HT.out]; rfl) Rt (by have := HT.out; simp; omega) (by simp) ?_; intro v1 w1 own1 gr1; replace gr1 := App.below_own Oe Be (Nat.le_refl _) gr1; replace own1 : HasI w1 wr.heap.size v1 t := (by simpa using own1); obtain ⟨g1, cap1, rfl, hg1, hw1, hr1⟩ := hasI_room own1 (by have := HT.out; omega) tby)
        | (at_builtin; refine wpList_appP (w0 := wr) rfl (.tmp 43) (.tmp 50) rfl w.heap.size _ _ _ P ⟨some ⟨g1, 0, none⟩, g1, cap1, t⟩ rfl rfl hop (Rw.next gr1 (below_alloc1 _ _)) (hw1.below (below_alloc1 _ _)) (by have := HT.out; have := HD.out; simp only; omega) hg1 (by have := hbel.size; omega) (at_new rfl) (by omega) ?_; intro v2 w2 hop2 hgr; have hB := stepB hop hbel gr1 hgr; have Rd2 := (rd_blk hdq (kept_blk (hasI_lt hq rfl).2 gr1 hgr (op_hasI hop hq rfl))).below (below_alloc1 w2 (.cells #[] 5)); have Oe2 := own_empty w2; have Be2 := below_alloc1 w2 (.cells #[] 5)))
      go_roundw
      case rel =>
        have h1 := HE1.out
        have h2 := HY2.out
        have ey : y = [] := List.eq_nil_of_length_eq_zero (by omega)
        rw [ey] at hmore
        refine ⟨[], P ++ [⟨some ⟨g1, 0, none⟩, g1, cap1, t⟩], hasI_mono Oe2 hB.size, hop2.below Be2, fun p hp e => ?_, Rw.next hB Be2, (fun x hx => by simp at hx), by simpa using hmore, ?_, ?_⟩
        · have h1 := hop2.lt hp
          simp [Value.ownBlock] at e
          omega
        · rw [List.length_append, List.length_singleton, kP_snoc]; have := HT.out; simp only [List.length_nil]; omega
        · simp only [List.length_append, List.length_cons, List.length_nil]; have := HD.out; omega
      case measure => have h2 := HD.out; simp; omega
    · have zc : ¬ (n : Int) = (capq : Int) := by omega
      have hdq := hd
      go_wp2_with (first
        | (go_at_call 81; refine htold.mono ?_; rintro e w1 ⟨rfl, hw⟩; replace hw := hw.symm; subst hw)
        | (at_builtin; refine wpList_app rfl (.tmp 44) (.tmp 47) rfl wr.heap.size _ [] t rfl Oe (some ⟨gq, 0, none⟩) gq 0 capq (by rw [HT.out]; rfl) Rt (by have := HT.out; simp; omega) (by simp) ?_; intro v1 w1 own1 gr1; replace gr1 := App.below_own Oe Be (Nat.le_refl _) gr1; replace own1 : HasI w1 wr.heap.size v1 t := (by simpa using own1); obtain ⟨g1, cap1, rfl, hg1, hw1, hr1⟩ := hasI_room own1 (by have := HT.out; omega) tby)
        | (at_builtin; refine wpList_appP (w0 := wr) rfl (.tmp 43) (.tmp 50) rfl w.heap.size _ _ _ P ⟨some ⟨g1, 0, none⟩, g1, cap1, t⟩ rfl rfl hop (Rw.next gr1 (below_alloc1 _ _)) (hw1.below (below_alloc1 _ _)) (by have := HT.out; have := HD.out; simp only; omega) hg1 (by have := hbel.size; omega) (at_new rfl) (by omega) ?_; intro v2 w2 hop2 hgr; have hB := stepB hop hbel gr1 hgr; have Rd2 := (rd_blk hdq (kept_blk (hasI_lt hq rfl).2 gr1 hgr (op_hasI hop hq rfl))).below (below_alloc1 w2 (.cells #[] 5)); have Oe2 := own_empty w2; have Be2 := below_alloc1 w2 (.cells #[] 5))
        | (at_builtin; refine wpList_app rfl (.tmp 52) (.tmp 55) rfl w2.heap.size _ [] y rfl Oe2 (some ⟨gq, n, none⟩) gq n (capq - n) (by rw [HY2.out]; rfl) Rd2 (by have := HY2.out; simp; omega) (by simp) ?_; intro v3 w3 own3 gr3; replace gr3 := App.below_own Oe2 Be2 (Nat.le_refl _) gr3; replace own3 : HasI w3 w2.heap.size v3 y := (by simpa using own3)))
      go_roundw
      case rel =>
        refine ⟨y, P ++ [⟨some ⟨g1, 0, none⟩, g1, cap1, t⟩], hasI_mono own3 hB.size, hop2.below gr3, fun p hp e => ?_, Rw.next hB gr3, yby, by simpa using hmore, ?_, ?_⟩
        · have h1 := hop2.lt hp
          have h2 := (hasI_lt own3 e.symm).1
          omega
        · rw [List.length_append, List.length_singleton, kP_snoc]; have := HT.out; have := HY2.out; have := HD.out; simp only; omega
        · simp only [List.length_append, List.length_cons, List.length_nil]; have := HD.out; have := HY2.out; omega
      case measure =>
        obtain ⟨g3, cap3, rfl, _⟩ := hasI_room own3 (by have := HY2.out; omega) yby
        have h1 := HY2.out
        have h2 := HD.out
        simp
        omega

end Go.Proofs.Ytcbhpmgjmpbpmaa.Gq
namespace Go.Proofs.Ytcbhpmgjmpbpmaa.Gq
open Go Go.RowKit
set_option maxRecDepth 8000
set_option linter.unusedSimpArgs false
set_option linter.unusedVariables false
open Num Pl Rw Mk Un Put App Pr Gp Gd

/-- Parts and a rest of the call's own. -/
structure Got (lo : Nat) (w : World) (L : List (List Int)) (r : List Int) (pa : Option Addr) (pg : Nat) (P : List Pt) (a : Option Addr) (g : Nat) : Prop where
  form : Gp.Form w lo pa pg P
  like : P.map Pt.l = L
  wt : Wt w a g r
  lo : lo ≤ g
  d1 : ∀ i, i < P.length → 0 < r.length → (P.getD i p0).g ≠ g
  d2 : 0 < r.length → 0 < P.length → g ≠ pg
  n1 : P.length ≤ 10000
  n2 : kP P P.length + r.length ≤ 70000
theorem Got.keep {lo : Nat} {w w' : World} {L : List (List Int)} {r : List Int} {pa : Option Addr} {pg : Nat} {P : List Pt} {a : Option Addr} {g : Nat} (h : Got lo w L r pa pg P a g) (hk : ∀ x, x < w.heap.size → lo ≤ x → w'.heap[x]? = w.heap[x]?) : Got lo w' L r pa pg P a g :=
  { h with form := h.form.keep hk, wt := wt_keep h.wt fun hl => hk _ (wt_lt h.wt hl) h.lo }
theorem Got.below {lo : Nat} {w w' : World} {L : List (List Int)} {r : List Int} {pa : Option Addr} {pg : Nat} {P : List Pt} {a : Option Addr} {g : Nat} (h : Got lo w L r pa pg P a g) (hb : Below w.heap.size w w') : Got lo w' L r pa pg P a g := h.keep fun x hx _ => hb.block x hx
theorem Got.kept {lo : Nat} {w w' : World} {L : List (List Int)} {r : List Int} {pa : Option Addr} {pg x n : Nat} {P : List Pt} {a : Option Addr} {g : Nat} (h : Got lo w L r pa pg P a g) (hk : Mf.Kept x n w w') (hx : x < lo) : Got lo w' L r pa pg P a g := h.keep fun y hy hl => hk.block y hy (.inr (by omega))

def ResG (w : World) (ok : Bool) (L : List (List Int)) (r : List Int) (e : Ending) (w' : World) : Prop :=
  Below w.heap.size w w' ∧ ∃ pa pg pc P a g c, e = .returned (.tuple #[.slice pa (List.length P) pc, .slice a r.length c, .bool ok]) ∧ Got w.heap.size w' L r pa pg P a g
theorem resG {w w' : World} {A : Option (List (List Int) × List Int)} {e : Ending} (h : ResQ w A e w') : ResG w A.isSome (A.getD ([], [])).1 (A.getD ([], [])).2 e w' := by
  obtain ⟨hb, h⟩ := h
  refine ⟨hb, ?_⟩
  rcases h with ⟨rfl, rfl⟩ | ⟨P, v, r, a, g, cap, rfl, rfl, hop, hw, hg, h1, h2, h3, h4⟩
  · exact ⟨none, 0, 0, [], none, w.heap.size, 0, rfl, ⟨⟨fun h => by simp at h, fun i h => by simp at h, fun i h => by simp at h, fun i j h => by simp at h, fun i h => by simp at h, fun h => by simp at h⟩, rfl, Wt.nil _ _ _, Nat.le_refl _, fun i h => by simp at h, fun h => by simp at h, by simp, by simp [kP]⟩⟩
  · obtain ⟨pa, pg, pc, rfl, hf⟩ := hop.form
    exact ⟨pa, pg, pc, P, a, g, cap, rfl, ⟨hf, rfl, hw, hg, fun i hi hr => h1 _ (by simp [List.getD, hi]) hr, fun hr hp e => h2 hr (by rw [e, hf.head hp]; rfl), h3, h4⟩⟩
/-- Both Cut: the same answer, whatever it is. -/
theorem cuts (l m : List Int) : ∃ ok L r,
    (∀ a a' b off c b' off' c' w, Rd w a b off l → Rd w a' b' off' m → Calls Try.prog 19 #[.slice a l.length c, .slice a' m.length c'] w (ResG w ok L r)) ∧
    (∀ a a' b off c b' off' c' w, Rd w a b off l → Rd w a' b' off' m → Calls Try.prog 20 #[.slice a l.length c, .slice a' m.length c'] w (ResG w ok L r)) :=
  ⟨_, _, _, fun a a' b off c b' off' c' w h h' => (cutI a a' b off c b' off' c' l m w h h').mono fun _ _ x => resG x, fun a a' b off c b' off' c' w h h' => (cutS a a' b off c b' off' c' l m w h h').mono fun _ _ x => resG x⟩

theorem eqP {lo lo' : Nat} {w : World} {L : List (List Int)} {r : List Int} {pa pa' : Option Addr} {pg pg' : Nat} {P P' : List Pt} {a a' : Option Addr} {g g' : Nat} (h : Got lo w L r pa pg P a g) (h' : Got lo' w L r pa' pg' P' a' g') (c c' : Nat) :
    Calls Try.prog 32 #[.slice pa P.length c, .slice pa' P'.length c'] w fun e w' => e = .returned (.bool true) ∧ Below w.heap.size w w' :=
  eqPartS_same pa pa' pg c pg' c' lo lo' P P' w h.form h'.form (h.like.trans h'.like.symm) (by have := h.n1; omega)
theorem eqR {lo lo' : Nat} {w : World} {L : List (List Int)} {r : List Int} {pa pa' : Option Addr} {pg pg' : Nat} {P P' : List Pt} {a a' : Option Addr} {g g' : Nat} (h : Got lo w L r pa pg P a g) (h' : Got lo' w L r pa' pg' P' a' g') (c c' : Nat) :
    Calls Try.prog 25 #[.slice a r.length c, .slice a' r.length c'] w fun e w' => e = .returned (.bool true) ∧ Below w.heap.size w w' := by
  have := eqByteS_any a a' g 0 c g' 0 c' r r w h.wt.rd h'.wt.rd
  rw [decide_eq_true rfl] at this
  exact this
theorem eqL (l : List Int) (a a' : Option Addr) (b off c b' off' c' : Nat) (w : World) (h : Rd w a b off l) (h' : Rd w a' b' off' l) : Calls Try.prog 25 #[.slice a l.length c, .slice a' l.length c'] w fun e w' => e = .returned (.bool true) ∧ Below w.heap.size w w' := by
  have := eqByteS_any a a' b off c b' off' c' l l w h h'
  rw [decide_eq_true rfl] at this
  exact this

/-- Marked: the parts from 1 on, the rest behind them. -/
structure Marked (w : World) (P : List Pt) (r : List Int) (pa : Option Addr) (pg : Nat) (a : Option Addr) (g : Nat) : Prop where
  p : MkP w pa pg P 1 P.length
  r : Wt w a g (marksB (1 + (kP P P.length : Int)) r.length)
theorem MkP.below {w w' : World} {a : Option Addr} {g m : Nat} {P : List Pt} {k0 : Int} (h : MkP w a g P k0 m) (hm : P.length ≤ m) (hl : ∀ i, i < P.length → (P.getD i p0).g < w.heap.size) (hb : Below w.heap.size w w') : MkP w' a g P k0 m :=
  h.keep (fun hp => hb.block _ (World.block_lt_of_cell? _ _ (h.cell 0 hp))) fun i hi => hb.block _ (hl i hi)
theorem Got.lt {lo : Nat} {w : World} {L : List (List Int)} {r : List Int} {pa : Option Addr} {pg : Nat} {P : List Pt} {a : Option Addr} {g : Nat} (h : Got lo w L r pa pg P a g) : ∀ i, i < P.length → (P.getD i p0).g < w.heap.size := fun i hi => wt_lt (h.form.each i hi).1 (h.form.each i hi).2.2
theorem Got.use {lo : Nat} {w : World} {L : List (List Int)} {r : List Int} {pa : Option Addr} {pg : Nat} {P : List Pt} {a : Option Addr} {g : Nat} (h : Got lo w L r pa pg P a g) {x : Nat} (hx : UseP P x) : lo ≤ x := by
  obtain ⟨i, hi, rfl⟩ := hx
  exact (h.form.each i hi).2.1

theorem markP {lo : Nat} {w : World} {L : List (List Int)} {r : List Int} {pa : Option Addr} {pg : Nat} {P : List Pt} {a : Option Addr} {g : Nat} (h : Got lo w L r pa pg P a g) (c : Nat) :
    Calls Try.prog 33 #[.slice pa P.length c, .int .i64 1] w fun e w' => e = .returned (.int .i64 (1 + (kP P P.length : Int))) ∧ Em.KeptP (UseP P) w w' ∧ MkP w' pa pg P 1 P.length ∧ Wt w' a g r := by
  refine (markPartS_any 1 (by omega) pa pg c lo P w h.form (by have := h.n1; omega) (by have := h.n2; omega)).mono ?_
  rintro e w' ⟨rfl, hk, hm⟩
  refine ⟨rfl, hk, hm, wt_keep h.wt fun hl => hk.block _ (wt_lt h.wt hl) ?_⟩
  rintro ⟨i, hi, e⟩
  exact h.d1 i hi hl e.symm
theorem markR {lo : Nat} {w0 w : World} {L : List (List Int)} {r : List Int} {pa : Option Addr} {pg : Nat} {P : List Pt} {a : Option Addr} {g : Nat} (h : Got lo w0 L r pa pg P a g) (hm : MkP w pa pg P 1 P.length) (hw : Wt w a g r) (c : Nat) :
    Calls Try.prog 27 #[.slice a r.length c, .int .i64 (1 + (kP P P.length : Int))] w fun e w' => e = .returned (.int .i64 (1 + (kP P P.length : Int) + (r.length : Int))) ∧ Mf.Kept g r.length w w' ∧ Marked w' P r pa pg a g := by
  refine (markB_any _ (by omega) (by have := h.n2; omega) a g c r w hw).mono ?_
  rintro e w' ⟨rfl, hk, hm'⟩
  refine ⟨rfl, hk, ⟨hm.keep (fun hp => hk.block _ (World.block_lt_of_cell? _ _ (hm.cell 0 hp)) ?_) (fun i hi => hk.block _ (wt_lt (hm.done i hi hi) ?_) ?_), hm'⟩⟩
  · rcases Nat.eq_zero_or_pos r.length with h0 | h0
    · exact .inl h0
    · exact .inr fun e => h.d2 h0 hp e.symm
  · rw [marksB_len]; exact (h.form.each i hi).2.2
  · rcases Nat.eq_zero_or_pos r.length with h0 | h0
    · exact .inl h0
    · exact .inr (h.d1 i hi h0)
theorem Marked.below {w w' : World} {P : List Pt} {r : List Int} {pa : Option Addr} {pg : Nat} {a : Option Addr} {g : Nat} (h : Marked w P r pa pg a g) (hb : Below w.heap.size w w') (hl : ∀ i, i < P.length → 0 < (P.getD i p0).l.length) : Marked w' P r pa pg a g :=
  ⟨MkP.below h.p (Nat.le_refl _) (fun i hi => wt_lt (h.p.done i hi hi) (by rw [marksB_len]; exact hl i hi)) hb, h.r.below hb⟩
theorem heldP {lo : Nat} {w0 w : World} {L : List (List Int)} {r : List Int} {pa : Option Addr} {pg : Nat} {P : List Pt} {a : Option Addr} {g : Nat} (h : Got lo w0 L r pa pg P a g) (hm : Marked w P r pa pg a g) (c : Nat) :
    Calls Try.prog 34 #[.slice pa P.length c, .int .i64 1] w fun e w' => e = .returned (.int .i64 (1 + (kP P P.length : Int))) ∧ w' = w :=
  heldPartS_any 1 (by omega) pa pg c P w h.form.head hm.p (by have := h.n1; omega) (by have := h.n2; omega)
theorem heldR {lo : Nat} {w0 w : World} {L : List (List Int)} {r : List Int} {pa : Option Addr} {pg : Nat} {P : List Pt} {a : Option Addr} {g : Nat} (h : Got lo w0 L r pa pg P a g) (hm : Marked w P r pa pg a g) (c : Nat) :
    Calls Try.prog 28 #[.slice a r.length c, .int .i64 (1 + (kP P P.length : Int))] w fun e w' => e = .returned (.int .i64 (1 + (kP P P.length : Int) + (r.length : Int))) ∧ w' = w :=
  heldB_any _ (by omega) (by have := h.n2; omega) a g c r.length w hm.r

end Go.Proofs.Ytcbhpmgjmpbpmaa.Gq

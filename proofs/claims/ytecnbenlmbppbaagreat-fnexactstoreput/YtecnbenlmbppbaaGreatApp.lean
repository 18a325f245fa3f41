/-
  Append to a slice of bytes of the call's own; a copy; a number written behind.
-/
import Derived.Test.YtecnbenlmbppbaaGreatPuto
import Derived.Test.YtecnbenlmbppbaaGreatPlb
namespace Go.Proofs.YtecnbenlmbppbaaGreat.App
open Go Go.RowKit
set_option maxRecDepth 8000
open Num Rw Mk Un Put Pl

theorem news_of {w : World} {ad : Addr} {b off : Nat} {m : List Int} (hr : Rd w (some ad) b off m) : ∀ j u, (m.map (Value.int .u8))[j]? = some u → w.cell? (ad.add j) = some u := by
  intro j u hj
  have hjl : j < m.length := by have := (List.getElem?_eq_some_iff.1 hj).1; simpa using this
  have hcj := hr.cell j hjl
  have e : u = .int .u8 (m.getD j 0) := by simp [hjl] at hj; rw [← hj]; simp [List.getD, hjl]
  subst e
  have hd := hr.head (by omega)
  injection hd with hd
  subst hd
  by_cases ej : j = 0
  · subst ej; simpa [Addr.add] using hcj
  · simpa [Addr.add, ej] using hcj

theorem rd_nil {w : World} {b off : Nat} {m : List Int} (hr : Rd w none b off m) : m = [] := by
  rcases Nat.eq_zero_or_pos m.length with h0 | h0
  · exact List.eq_nil_of_length_eq_zero h0
  · exact absurd (hr.head h0) (by simp)

theorem run_none (w : World) (ty : TypeId) (g n cap c : Nat) (h : n ≤ cap) : (Builtin.append_ #[22, 22] ty #[.slice (some ⟨g, 0, none⟩) n cap, .slice none 0 c]).run Tryz.prog w = .ok (.slice (some ⟨g, 0, none⟩) n cap) w := by
  simp [Builtin.append_, go_sem, h]

theorem wpList_app {ops : Array Oper} {rest : List Oper} {o : Oper} {a : Act} {w : World} {Q : Exit → Act → World → Prop} (hgd : o.guard = none) (s x : Operand)
    (ho : o.op = .call { callee := .builtin .append, args := #[s, x], argTypes := #[22, 22] }) (base : Nat) (v : Value) (l m : List Int) (hs : a.eval s = v) (hown : HasI w base v l)
    (A : Option Addr) (b off c : Nat) (hx : a.eval x = .slice A m.length c) (hr : Rd w A b off m) (hb : l.length + m.length ≤ 8388608) (hbase : base ≤ w.heap.size)
    (h : ∀ v' w', HasI w' base v' (l ++ m) → w.grownBy w' v.ownBlock → wpList Tryz.prog ops Q rest (a.put o.dst v') w') : wpList Tryz.prog ops Q (o :: rest) a w := by
  obtain ⟨i0, hi, hz0, hz1, hz2⟩ := info_parts info5
  rcases A with _ | ad
  · obtain rfl := rd_nil hr
    have hg0 : w.grownBy w v.ownBlock := ⟨rfl, rfl, rfl, Nat.le_refl _, fun _ _ _ => rfl⟩
    have h2 := h v w (by simpa using hown) hg0
    rcases hown.1.2 with ⟨rfl, _⟩ | ⟨g, cap, cur, rfl, _, _, hn, _, _, _⟩
    · exact absurd rfl hown.2
    · refine wpList_plain hgd fun K hK => ?_
      unfold Oper.wp execOp
      have hrun := run_none w o.type g l.length cap c hn
      simp only [List.length_nil] at hx
      simp only [ho, resolve, invoke, builtin, Sem.run_bind, Sem.run_pure, Result.andThen_ok, List.map_toArray, List.map_cons, List.map_nil, hs, hx, hrun]
      exact hK _ _ h2
  · refine wpList_append_own _ hgd s x 22 ho base 5 i0 (.int .u8 0) 1 1 Tryz.underlying22 hi hz0 hz1 hz2 rfl (by decide) v l.length (l.map (Value.int .u8)) hs hown.1 ad m.length c (m.map (Value.int .u8)) hx (by simp) (news_of hr) (by intro u hu; simp at hu; obtain ⟨q, _, rfl⟩ := hu; rfl) (by unfold maxLen; omega) (by omega) hbase ?_
    intro v' w' h1 h2 h3
    refine h v' w' ⟨by simpa using h1, fun e => ?_⟩ h2
    exact hown.2 (h3.1 e).1

/-- An empty slice of the call's own. -/
theorem own_empty (w : World) : HasI (w.alloc (.cells #[] 5)) w.heap.size (.slice (some ⟨w.heap.size, 0, none⟩) 0 0) [] := ⟨by simpa using World.ownsRow_made (size := 1) (e := 5) w #[] 0 (Nat.le_refl _) (Nat.zero_le _) rfl, by simp⟩

theorem below_own {w w1 w2 : World} {B : Nat} {v : Value} {l : List Int} (h : HasI w1 B v l) (hb : Below w.heap.size w w1) (hB : w.heap.size ≤ B) (hg : w1.grownBy w2 v.ownBlock) : Below w.heap.size w w2 :=
  hb.grown hg hb.size (fun k hk => by have := (h.1.lt k hk).1; omega)

theorem hasI_below {w w' : World} {B : Nat} {v : Value} {l : List Int} (h : HasI w B v l) (hb : Below w.heap.size w w') : HasI w' B v l := by
  refine ⟨h.1.kept (row := none) ⟨hb.os, hb.tape, hb.output, hb.size, fun k hk _ => hb.block k hk⟩ ?_, h.2⟩
  by_cases e : v.ownBlock = none
  · exact .inl e
  · exact .inr e

theorem hasI_mono {w : World} {B B' : Nat} {v : Value} {l : List Int} (h : HasI w B v l) (hb : B' ≤ B) : HasI w B' v l := by
  refine ⟨⟨h.1.1, ?_⟩, h.2⟩
  rcases h.1.2 with h0 | ⟨g, cap, cur, rfl, hB, r⟩
  · exact .inl h0
  · exact .inr ⟨g, cap, cur, rfl, by omega, r⟩

/-- What 'Clone' and its like answer: the same bytes, in memory of the call's own (or none). -/
def Copy (w : World) (l : List Int) (e : Ending) (w' : World) : Prop :=
  ∃ a g cap, e = .returned (.slice a l.length cap) ∧ Wt w' a g l ∧ w.heap.size ≤ g ∧ (a = none → cap = 0) ∧ Below w.heap.size w w'

theorem eql_nil (w : World) : (binOp BinOp.eql 22 (.slice none 0 0) (.slice none 0 0)).run Tryz.prog w = .ok (.bool true) w := by kernel_rfl
theorem eql_some (ad : Addr) (n c : Nat) (w : World) : (binOp BinOp.eql 22 (.slice (some ad) n c) (.slice none 0 0)).run Tryz.prog w = .ok (.bool false) w := by kernel_rfl

set_option maxHeartbeats 1000000 in
theorem with_own (v : Value) (base : Nat) (l : List Int) (n size : Int) (w : World) (h : HasI w base v l) (hs : l.length ≤ 4194304) (hy : Byt l) (hn : numOkB n size = true) (h6 : (l.length : Int) + size ≤ 60000) :
    Calls Tryz.prog 107 #[v, .int .i64 n, .int .i64 size] w fun e w' => ∃ v', e = .returned v' ∧ HasI w' w.heap.size v' (l ++ digs n.toNat size.toNat size.toNat) ∧ Below w.heap.size w w' := by
  obtain ⟨g, cap, rfl, hg, hwt⟩ := hasI_form h hs hy
  have hr := hwt.rd
  clear h hwt
  go_enter Tryz.func107, Tryz.ntmps107
  go_wp2_with (go_at_call 159; refine (implPut_own _ _ _ _ _ _ _ hr hn h6).mono ?_; rintro e w' ⟨v', rfl, hv, hb⟩)
  go_ret
  exact ⟨_, rfl, hv, hb⟩

set_option maxHeartbeats 1000000 in
theorem with_nil (n size : Int) (w : World) (hn : numOkB n size = true) :
    Calls Tryz.prog 107 #[.slice none 0 0, .int .i64 n, .int .i64 size] w fun e w' => ∃ v', e = .returned v' ∧ HasI w' w.heap.size v' ([] ++ digs n.toNat size.toNat size.toNat) ∧ Below w.heap.size w w' := by
  go_enter Tryz.func107, Tryz.ntmps107
  go_wp2_with (go_at_call 159; refine (implPut_own0 [] rfl _ _ _ hn).mono ?_; rintro e w' ⟨v', rfl, hv, hb⟩)
  go_ret
  exact ⟨_, rfl, hv, hb⟩

theorem specPut_hasI (v : Value) (base : Nat) (l : List Int) (n size : Int) (w : World) (h : HasI w base v l) (hs : l.length ≤ 4194304) (hy : Byt l) (hn : numOkB n size = true) (h6 : (l.length : Int) + size ≤ 60000) :
    Calls Tryz.prog 51 #[v, .int .i64 n, .int .i64 size] w (Own w l n.toNat size.toNat) := by
  obtain ⟨g, cap, rfl, hg, hwt⟩ := hasI_form h hs hy
  exact specPut_own _ _ _ _ _ _ _ hwt.rd hn h6

end Go.Proofs.YtecnbenlmbppbaaGreat.App

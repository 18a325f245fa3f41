/- A loop over an iterator, where the iterator may be one that ranges over another: what a round may turn is a fixed set of blocks and one block more (the list that it fills); what the iterator does between two rounds leaves all cells as they were. -/
import Derived.RangeFuncNested
import Derived.RangeFuncBound
namespace Go.Proofs.Ytfiebakgphcnbaa.Ia
open Go Go.RowKit

/-- Between two rounds: what is cells stays, and all below B. -/
structure Calm (B : Nat) (W W' : World) : Prop where
  os : W'.os = W.os
  tape : W'.tape = W.tape
  output : W'.output = W.output
  size : W.heap.size ≤ W'.heap.size
  block : ∀ k o, W.heap[k]? = some o → (o.isCells = true ∨ k < B) → W'.heap[k]? = some o

theorem Calm.refl (B : Nat) (W : World) : Calm B W W := ⟨rfl, rfl, rfl, Nat.le_refl _, fun _ _ h _ => h⟩
theorem Calm.trans {B : Nat} {X Y Z : World} (h : Calm B X Y) (k : Calm B Y Z) : Calm B X Z :=
  ⟨k.os.trans h.os, k.tape.trans h.tape, k.output.trans h.output, Nat.le_trans h.size k.size, fun i o hi ho => k.block i o (h.block i o hi ho) ho⟩
theorem Calm.mono {B B' : Nat} {X Y : World} (h : Calm B X Y) (hB : B' ≤ B) : Calm B' X Y :=
  ⟨h.os, h.tape, h.output, h.size, fun i o hi ho => h.block i o hi (ho.imp id (fun z => Nat.lt_of_lt_of_le z hB))⟩
theorem Calm.of_below {B : Nat} {X Y : World} (h : Below X.heap.size X Y) : Calm B X Y :=
  ⟨h.os, h.tape, h.output, h.size, fun i _ hi _ => (h.block i (Array.getElem?_eq_some_iff.1 hi).1).trans hi⟩
theorem Calm.putObj {B : Nat} {W : World} {l : Nat} {o : Obj} (o' : Obj) (h : W.heap[l]? = some o) (hc : o.isCells = false) (hB : B ≤ l) : Calm B W (W.putObj l o') :=
  ⟨rfl, rfl, rfl, by simp, fun i oi hi ho => by
    have hne : i ≠ l := fun e => by
      subst e; rw [h] at hi; cases hi
      rcases ho with ho | ho
      · rw [hc] at ho; cases ho
      · omega
    exact (World.putObj_heap_other hne).trans hi⟩
theorem Calm.below {B n : Nat} {w X Y : World} (h : Calm B X Y) (hb : Below n w X) (hn : n ≤ B) (hw : n ≤ w.heap.size) : Below n w Y :=
  ⟨h.os.trans hb.os, h.tape.trans hb.tape, h.output.trans hb.output, Nat.le_trans hb.size h.size, fun k hk => by
    have h0 : k < X.heap.size := by have := hb.size; omega
    have e0 : X.heap[k]? = some X.heap[k] := Array.getElem?_eq_getElem h0
    rw [h.block k _ e0 (.inr (by omega)), ← e0]; exact hb.block k hk⟩

/-- What a round turns: the blocks of T, block g, and what it makes. -/
structure Turn (T : Nat → Prop) (g : Nat) (W W' : World) : Prop where
  os : W'.os = W.os
  tape : W'.tape = W.tape
  output : W'.output = W.output
  size : W.heap.size ≤ W'.heap.size
  block : ∀ k, k < W.heap.size → ¬ T k → k ≠ g → W'.heap[k]? = W.heap[k]?

theorem Turn.refl (T : Nat → Prop) (g : Nat) (W : World) : Turn T g W W := ⟨rfl, rfl, rfl, Nat.le_refl _, fun _ _ _ _ => rfl⟩
theorem Turn.trans {T : Nat → Prop} {g g' : Nat} {X Y Z : World} (h : Turn T g X Y) (k : Turn T g' Y Z) (hg : g' = g ∨ X.heap.size ≤ g') : Turn T g X Z :=
  ⟨k.os.trans h.os, k.tape.trans h.tape, k.output.trans h.output, Nat.le_trans h.size k.size, fun i hi hT hne =>
    (k.block i (Nat.lt_of_lt_of_le hi h.size) hT (fun e => by rcases hg with rfl | hg; exact hne e; omega)).trans (h.block i hi hT hne)⟩
theorem Turn.of_below {T : Nat → Prop} {g : Nat} {X Y : World} (h : Below X.heap.size X Y) : Turn T g X Y :=
  ⟨h.os, h.tape, h.output, h.size, fun i hi _ _ => h.block i hi⟩
theorem Turn.mono {T T' : Nat → Prop} {g : Nat} {X Y : World} (h : Turn T g X Y) (hT : ∀ k, T k → T' k) : Turn T' g X Y :=
  ⟨h.os, h.tape, h.output, h.size, fun i hi hn hne => h.block i hi (fun e => hn (hT i e)) hne⟩
theorem Turn.putObj {T : Nat → Prop} {g : Nat} {W : World} {l : Nat} (o' : Obj) (hT : T l) : Turn T g W (W.putObj l o') :=
  ⟨rfl, rfl, rfl, by simp, fun i _ hn _ => World.putObj_heap_other (fun e => hn (e ▸ hT))⟩
theorem Turn.below {T : Nat → Prop} {g n : Nat} {X Y : World} (h : Turn T g X Y) (hn : n ≤ X.heap.size) (hT : ∀ k, T k → n ≤ k) (hg : n ≤ g) : Below n X Y :=
  ⟨h.os, h.tape, h.output, h.size, fun k hk => h.block k (by omega) (fun e => by have := hT k e; omega) (by omega)⟩

/-- How the body of a round may be left. -/
def post {α : Type} (T : Nat → Prop) (I : List α → Nat → World → Prop) (Ix : Code → List α → World → Prop) (xs : List α) (g : Nat) (W : World) : Exit → Act → World → Prop
  | .normal, _, W' => Turn T g W W' ∧ ∃ g', I xs g' W' ∧ (g' = g ∨ W.heap.size ≤ g') ∧ g' < W'.heap.size
  | .ret, _, W' => Turn T g W W' ∧ Ix .ret xs W'
  | .exit id, _, W' => Turn T g W W' ∧ Ix (.exit id) xs W'
  | .goto t, _, W' => Turn T g W W' ∧ Ix (.goto t) xs W'
  | .panic _, _, _ => False
  | .outgrown, _, _ => False

/-- What a round says to the iterator. -/
def told {α : Type} (T : Nat → Prop) (J : List α → Nat → World → Prop) (Jx : List α → World → Prop) (xs : List α) (g : Nat) (A : World) (e : Ending) (B : World) : Prop :=
  Turn T g A B ∧ ((e = .returned (.bool true) ∧ ∃ g', J xs g' B ∧ (g' = g ∨ A.heap.size ≤ g') ∧ g' < B.heap.size) ∨ (e = .returned (.bool false) ∧ Jx xs B))

/-- The contract of an iterator: it gives what R says, one after the other, to whoever keeps its memory mem; mem is as it was in w0. S: all has come; Sp: a part. -/
def Seq {α : Type} (P : Program) (gf : Nat) (lb : Array Value) (encs : α → Array Value) (R : List α → Nat → α → World → Prop) (S Sp : List α → Prop) (mem : Nat → Prop) (w0 : World) : Prop :=
  ∀ (l : Nat) (T : Nat → Prop) (J : List α → Nat → World → Prop) (Jx : List α → World → Prop) (W : World) (g0 : Nat),
    w0.heap.size ≤ W.heap.size → (∀ k, mem k → k < w0.heap.size ∧ W.heap[k]? = w0.heap[k]?) →
    (∀ k, T k → ¬ mem k ∧ k < W.heap.size) → ¬ mem g0 → g0 < W.heap.size → l < W.heap.size →
    (∀ pre g A B, J pre g A → Calm (l + 1) A B → J pre g B) → (∀ pre A B, Jx pre A → Calm (l + 1) A B → Jx pre B) →
    (∀ pre g x A, J pre g A → g < A.heap.size → R pre g x A → YieldAt Fence.wide 8 P l (encs x) A (told T J Jx (pre ++ [x]) g A)) →
    J [] g0 W →
    CallsIn Fence.wide 9 P gf (#[.func (.yield l) #[] #[]] ++ lb) W fun e B => (∃ v, e = .returned v) ∧ ((∃ xs g, S xs ∧ J xs g B ∧ g < B.heap.size) ∨ (∃ pre, Sp pre ∧ Jx pre B))

theorem round_n {P : Program} {n m l : Nat} {f : FuncId} {tmps : Array Value} {assign body : Code} {W : World} {R : Ending → World → Prop} (h : RoundIn Fence.wide n P l f tmps assign body W R) : RoundIn Fence.wide m P l f tmps assign body W R :=
  ⟨h.1, fun c cs _ => h.2 c cs (room_wide _)⟩

/-- A loop over an iterator. -/
theorem range_seq {α : Type} {P : Program} {g : Operand} {ps : Array Tmp} {assign body : Code} {Q : Exit → Act → World → Prop} {a : Act} {w : World}
    {gf : Nat} {lb : Array Value} (hg : a.eval g = .func (.func gf) #[] lb) (eg : ∀ args w, (callFunc gf args).run P w = .ok (.enter gf args) w)
    {encs : α → Array Value} {R : List α → Nat → α → World → Prop} {S Sp : List α → Prop} {mem : Nat → Prop} {w0 : World} (hseq : Seq P gf lb encs R S Sp mem w0)
    (hs0 : w0.heap.size ≤ w.heap.size) (hmem : ∀ k, mem k → k < w0.heap.size ∧ w.heap[k]? = w0.heap[k]?) (hps : ∀ x, (encs x).size = ps.size) (hR : ∀ pre g x A B, R pre g x A → Calm w.heap.size A B → R pre g x B)
    (T : Nat → Prop) (hT : ∀ k, T k → ¬ mem k ∧ k < w.heap.size) (g0 : Nat) (hg0 : ¬ mem g0) (hg1 : g0 < w.heap.size)
    (I : List α → Nat → World → Prop) (Ix : Code → List α → World → Prop)
    (hI : ∀ pre g A B, I pre g A → Calm w.heap.size A B → I pre g B) (hIx : ∀ c pre A B, Ix c pre A → Calm w.heap.size A B → Ix c pre B)
    (h0 : I [] g0 w) (Ax : α → Act → World → Prop) (hAx : ∀ x a' A B, Ax x a' A → Calm w.heap.size A B → Ax x a' B)
    (hassign : ∀ (l : Nat) (pre : List α) (g : Nat) (x : α) (W : World) (K : Act → World → Prop), w.heap.size < l → I pre g W → (∀ a' W', Below W.heap.size W W' → Ax x a' W' → K a' W') →
      assign.wpIn (Fence.wide.inRound l) 9 P (Exit.then K (fun _ _ _ => False)) { tmps := (ps.zip (encs x)).foldl (fun t (p, v) => t.setIfInBounds p v) a.tmps, defers := [] } W)
    (hbody : ∀ (l : Nat) (pre : List α) (g : Nat) (x : α) (a' : Act) (W : World), w.heap.size < l → l < W.heap.size → g ≠ l → I pre g W → g < W.heap.size → R pre g x W → Ax x a' W →
      body.wpIn (Fence.wide.inRound l) 9 P (post T I Ix (pre ++ [x]) g W) a' W)
    (hdone : ∀ (D g : Nat) (xs : List α) (W : World), w.heap.size ≤ D → S xs → I xs g W → g < W.heap.size → g ≠ D → W.heap[D]? = some (.deferred (some [])) → Q .normal { a with defers := { target := .collected D, args := #[] } :: a.defers } W)
    (hstop : ∀ (D : Nat) (c : Code) (pre : List α) (W : World), w.heap.size ≤ D → Sp pre → Ix c pre W → W.heap[D]? = some (.deferred (some [])) → c.wpIn Fence.wide 9 P Q { a with defers := { target := .collected D, args := #[] } :: a.defers } W) :
    (Code.rangeFunc g ps assign body).wpIn Fence.wide 9 P Q a w := by
  refine wpIn_rangeFunc ?_
  intro fn hfn
  rw [show Fence.wide.round = none from rfl]
  obtain ⟨rec, hrec⟩ : ∃ rec : LoopState → Option Code → Loop, rec = fun st pe => { state := st, pending := pe, fn, tmps := a.tmps, params := ps, assign, body, defers := w.heap.size } := ⟨_, rfl⟩
  obtain ⟨W1, hW1⟩ : ∃ W1, (w.alloc (.deferred (some []))).alloc (.loop (rec .ready none)) = W1 := ⟨_, rfl⟩
  have hb1 : Below w.heap.size w W1 := by
    rw [← hW1]; exact (((Below.refl _ w).alloc (Nat.le_refl _) _).alloc (by simp) _)
  have hz1 : W1.heap.size = w.heap.size + 2 := by rw [← hW1]; simp
  have hL1 : W1.heap[w.heap.size + 1]? = some (.loop (rec .ready none)) := by
    rw [← hW1]; have := World.alloc_heap_new (w.alloc (.deferred (some []))) (.loop (rec .ready none)); rwa [World.size_alloc] at this
  have hK1 : W1.heap[w.heap.size]? = some (.deferred (some [])) := by
    rw [← hW1]; exact (Below.heap_alloc _ _ _ (by simp)).trans (World.alloc_heap_new w _)
  refine ⟨w.heap.size + 1, [{ target := .collected w.heap.size, args := #[] }], W1, { target := .fn (.func gf) lb, args := #[.func (.yield (w.heap.size + 1)) #[] #[]] }, W1, gf,
    #[.func (.yield (w.heap.size + 1)) #[] #[]] ++ lb, W1, ?_, ?_, fun _ _ => trivial, ?_, fun h => by simp [Fence.wide] at h, ?_⟩
  · rw [← hW1, hrec]; exact run_enterLoop_outer _ _ _ _ _
  · simp only [resolve, hg]
    simp [go_sem]
  · simp [invoke, go_sem, eg]
  · refine callsIn_wide.2 (callsIn_wide.1 ((hseq (w.heap.size + 1) (fun k => T k ∨ k = w.heap.size + 1)
      (fun pre g W => I pre g W ∧ W.heap[w.heap.size + 1]? = some (.loop (rec .ready none)) ∧ W.heap[w.heap.size]? = some (.deferred (some [])) ∧ g ≠ w.heap.size ∧ g ≠ w.heap.size + 1)
      (fun pre W => ∃ c, Ix c pre W ∧ W.heap[w.heap.size + 1]? = some (.loop (rec .done (some c))) ∧ W.heap[w.heap.size]? = some (.deferred (some [])))
      W1 g0 (by omega) (fun k hk => ⟨(hmem k hk).1, (hb1.block k (by have := (hmem k hk).1; omega)).trans (hmem k hk).2⟩)
      (fun k hk => by
        rcases hk with hk | rfl
        · exact ⟨(hT k hk).1, by have := (hT k hk).2; omega⟩
        · exact ⟨fun hm => by have := (hmem _ hm).1; omega, by omega⟩)
      hg0 (by omega) (by omega)
      (fun pre g A B hj hc => ⟨hI pre g A B hj.1 (hc.mono (by omega)), hc.block _ _ hj.2.1 (.inr (by omega)), hc.block _ _ hj.2.2.1 (.inr (by omega)), hj.2.2.2⟩)
      (fun pre A B hj hc => by
        obtain ⟨c, h1, h2, h3⟩ := hj
        exact ⟨c, hIx c pre A B h1 (hc.mono (by omega)), hc.block _ _ h2 (.inr (by omega)), hc.block _ _ h3 (.inr (by omega))⟩)
      ?_ ⟨hI _ _ _ _ h0 (.of_below hb1), hL1, hK1, by omega, by omega⟩).mono ?_))
    · rintro pre g x W ⟨hi, hl, hk, hg2, hg3⟩ hgl hpx
      have hlt : w.heap.size + 1 < W.heap.size := (Array.getElem?_eq_some_iff.1 hl).1
      have hy := run_yield (P := P) (args := encs x) hl (by rw [hrec]; exact hps x)
      rw [hrec] at hy
      refine ⟨fn, _, assign, body, hy, round_n (roundIn_of_wpIn hfn (hassign _ pre g x W _ (by omega) hi ?_))⟩
      intro a' Wa hba hAxa
      have hla : Wa.heap[w.heap.size + 1]? = some (.loop (rec .ready none)) := (hba.block _ hlt).trans hl
      have hka : Wa.heap[w.heap.size]? = some (.deferred (some [])) := (hba.block _ (by omega)).trans hk
      have hlta : w.heap.size + 1 < Wa.heap.size := (Array.getElem?_eq_some_iff.1 hla).1
      refine ⟨_, run_beginRound hla (by rw [hrec]), ?_⟩
      have hcp : Calm w.heap.size Wa (Wa.putObj (w.heap.size + 1) (.loop { rec .ready none with state := .busy })) := .putObj _ hla rfl (by omega)
      have hl2 : (Wa.putObj (w.heap.size + 1) (.loop { rec .ready none with state := .busy })).heap[w.heap.size + 1]? = some (.loop { rec .ready none with state := .busy }) := World.putObj_heap_same hlta
      have hk2 : (Wa.putObj (w.heap.size + 1) (.loop { rec .ready none with state := .busy })).heap[w.heap.size]? = some (.deferred (some [])) := (World.putObj_heap_other (by omega)).trans hka
      have hz2 : (Wa.putObj (w.heap.size + 1) (.loop { rec .ready none with state := .busy })).heap.size = Wa.heap.size := World.putObj_size
      have hza := hba.size
      have hT1 : Turn (fun k => T k ∨ k = w.heap.size + 1) g W (Wa.putObj (w.heap.size + 1) (.loop { rec .ready none with state := .busy })) :=
        (Turn.of_below hba).trans (.putObj _ (.inr rfl)) (.inl rfl)
      generalize hV : Wa.putObj (w.heap.size + 1) (.loop { rec .ready none with state := .busy }) = V at hcp hl2 hk2 hz2 hT1 ⊢
      refine wpIn_mono (hbody _ pre g x a' V (by omega) (by omega) hg3 (hI _ _ _ _ (hI _ _ _ _ hi (.of_below hba)) hcp) (by omega) (hR _ _ _ _ _ (hR _ _ _ _ _ hpx (.of_below hba)) hcp) (hAx _ _ _ _ hAxa hcp)) ?_
      have fin : ∀ (jump : Option Code) (W3 : World), Turn T g V W3 →
          (Instr.endRound (w.heap.size + 1) jump).run P W3 = .ok (.bool jump.isNone) (W3.putObj (w.heap.size + 1) (.loop (rec (if jump.isNone then .ready else .done) jump))) ∧
          W3.heap[w.heap.size + 1]? = some (.loop { rec .ready none with state := .busy }) ∧
          (W3.putObj (w.heap.size + 1) (.loop (rec (if jump.isNone then .ready else .done) jump))).heap[w.heap.size + 1]? = some (.loop (rec (if jump.isNone then .ready else .done) jump)) ∧
          (W3.putObj (w.heap.size + 1) (.loop (rec (if jump.isNone then .ready else .done) jump))).heap[w.heap.size]? = some (.deferred (some [])) ∧
          Turn (fun k => T k ∨ k = w.heap.size + 1) g W (W3.putObj (w.heap.size + 1) (.loop (rec (if jump.isNone then .ready else .done) jump))) := fun jump W3 ht3 => by
        have hl3 : W3.heap[w.heap.size + 1]? = some (.loop { rec .ready none with state := .busy }) := (ht3.block _ (by omega) (fun e => by have := (hT _ e).2; omega) (fun e => hg3 e.symm)).trans hl2
        have hk3 : W3.heap[w.heap.size]? = some (.deferred (some [])) := (ht3.block _ (by omega) (fun e => by have := (hT _ e).2; omega) (fun e => hg2 e.symm)).trans hk2
        have := run_endRound (P := P) jump hl3
        have ht4 := (hT1.trans (ht3.mono (fun k hk => Or.inl hk)) (.inl rfl)).trans (Turn.putObj (g := g) (.loop (rec (if jump.isNone then .ready else .done) jump)) (Or.inr rfl)) (.inl rfl)
        rw [hrec] at this ht4 ⊢
        exact ⟨this, by rw [hrec] at hl3; exact hl3, World.putObj_heap_same (Array.getElem?_eq_some_iff.1 hl3).1, (World.putObj_heap_other (by omega)).trans hk3, ht4⟩
      rintro e a3 W3 hp
      cases e with
      | normal =>
        obtain ⟨ht3, g', hi3, hgg, hgl3⟩ := hp
        obtain ⟨hr, hl3, hl4, hk4, ht4⟩ := fin none W3 ht3
        exact ⟨_, _, hr, ht4, .inl ⟨rfl, g', ⟨hI _ _ _ _ hi3 (.putObj _ hl3 rfl (by omega)), hl4, hk4, by omega, by omega⟩, by omega, by rw [World.putObj_size]; exact hgl3⟩⟩
      | ret =>
        obtain ⟨ht3, hi3⟩ := hp
        obtain ⟨hr, hl3, hl4, hk4, ht4⟩ := fin (some .ret) W3 ht3
        exact ⟨_, _, hr, ht4, .inr ⟨rfl, .ret, hIx _ _ _ _ hi3 (.putObj _ hl3 rfl (by omega)), hl4, hk4⟩⟩
      | exit id =>
        obtain ⟨ht3, hi3⟩ := hp
        obtain ⟨hr, hl3, hl4, hk4, ht4⟩ := fin (some (.exit id)) W3 ht3
        exact ⟨_, _, hr, ht4, .inr ⟨rfl, .exit id, hIx _ _ _ _ hi3 (.putObj _ hl3 rfl (by omega)), hl4, hk4⟩⟩
      | goto t =>
        obtain ⟨ht3, hi3⟩ := hp
        obtain ⟨hr, hl3, hl4, hk4, ht4⟩ := fin (some (.goto t)) W3 ht3
        exact ⟨_, _, hr, ht4, .inr ⟨rfl, .goto t, hIx _ _ _ _ hi3 (.putObj _ hl3 rfl (by omega)), hl4, hk4⟩⟩
      | panic ch => exact hp.elim
      | outgrown => exact hp.elim
    · rintro e W2 ⟨⟨v, rfl⟩, (⟨xs, g, hS, ⟨hi, hl, hk, hg2, hg3⟩, hgl⟩ | ⟨pre, hpre, c, hi, hl, hk⟩)⟩
      · exact ⟨none, _, by have := run_endLoop (P := P) hl (by rw [hrec]; simp); rw [hrec] at this; exact this, hdone _ g xs _ (Nat.le_refl _) hS (hI _ _ _ _ hi (.putObj _ hl rfl (by omega))) (by rw [World.putObj_size]; exact hgl) hg2 ((World.putObj_heap_other (by omega)).trans hk)⟩
      · exact ⟨some c, _, by have := run_endLoop (P := P) hl (by rw [hrec]; simp); rw [hrec] at this; exact this, hstop _ c pre _ (Nat.le_refl _) hpre (hIx c _ _ _ hi (.putObj _ hl rfl (by omega))) ((World.putObj_heap_other (by omega)).trans hk)⟩

/-- A call of yield goes into a round as it is. -/
theorem yield_inRound {P : Program} {m l l' : Nat} {args : Array Value} {W : World} {R : Ending → World → Prop} (h : YieldAt Fence.wide m P l args W R) : YieldAt (Fence.wide.inRound l') m P l args W R := h

end Go.Proofs.Ytfiebakgphcnbaa.Ia

/- A range over a function whose iterator keeps a variable of its own in a box. -/
import Derived.Test.YtecmiphmefbpnaaX1
import Derived.RangeFuncNested
namespace Go.Proofs.Ytecmiphmefbpnaa.E
open Go.Proofs.Ytecmiphmefbpnaa Go.RowKit Go.By Go.Shelf
set_option linter.unusedVariables false

/-- One block of cells of type t, at or beyond B, was written, and nothing else. -/
def Wrote (t : TypeId) (B : Nat) (X Y : World) : Prop := ∃ r cs, B ≤ r ∧ X.heap[r]? = some (.cells cs t (0, 0)) ∧ Only (fun k => k = r) X Y
/-- What does not mind new blocks, nor a box of type t being written. -/
def Minds (t : TypeId) (B : Nat) {β : Type} (J : β → World → Prop) : Prop := ∀ s X Y, J s X → Below X.heap.size X Y ∨ Wrote t B X Y → J s Y
/-- What does not mind a box of type t being written, nor a block that is no cells being turned. -/
def OwnT (t : TypeId) (B : Nat) {β : Type} (I : β → World → Prop) : Prop := OwnFrom B I ∧ ∀ s X Y, I s X → Wrote t B X Y → I s Y

theorem OwnT.and {t : TypeId} {B : Nat} {β : Type} {I I' : β → World → Prop} (h : OwnT t B I) (h' : OwnT t B I') : OwnT t B (fun s W => I s W ∧ I' s W) :=
  ⟨h.1.and h'.1, fun s X Y hs hw => ⟨h.2 s X Y hs.1 hw, h'.2 s X Y hs.2 hw⟩⟩
theorem ownT_pure {t : TypeId} (B : Nat) {β : Type} (p : β → Prop) : OwnT t B (fun s (_ : World) => p s) := ⟨ownFrom_pure B p, fun _ _ _ hs _ => hs⟩
theorem Wrote.below {t : TypeId} {B n₀ : Nat} {X Y : World} (h : Wrote t B X Y) (hn : n₀ ≤ B) (hB : n₀ ≤ X.heap.size) : Below n₀ X Y := by
  obtain ⟨r, cs, hr, hx, ho⟩ := h
  exact ho.below hB fun i hi => by omega
theorem ownT_below {t : TypeId} {n₀ B : Nat} {w : World} {β : Type} (hn : n₀ ≤ w.heap.size) (hB : n₀ ≤ B) : OwnT t B (fun (_ : β) W => Below n₀ w W) :=
  ⟨ownFrom_below hn hB, fun _ X Y hs hw => hs.trans (hw.below hB (Nat.le_trans hn hs.size))⟩
/-- A block that is not a box of type t lies as it lay. -/
theorem Wrote.keeps {t : TypeId} {B : Nat} {X Y : World} (h : Wrote t B X Y) {k : Nat} {o : Obj} (hk : X.heap[k]? = some o) (ho : ∀ cs, o ≠ .cells cs t (0, 0)) : Y.heap[k]? = some o := by
  obtain ⟨r, cs, hr, hx, hw⟩ := h
  rw [hw.block k (Array.getElem?_eq_some_iff.1 hk).1 (fun e => ?_), hk]
  rw [e, hx] at hk
  cases hk
  exact ho _ rfl

/-- What an iterator with such a box promises. -/
def SeqT (t : TypeId) {α : Type} (F : Fence) (n : Nat) (P : Program) (g : Nat) (lb : Array Value) (encs : α → Array Value) (Kp : World → World → Prop) (S Sp : List α → Prop) (T : List α → α → Prop) (w : World) : Prop :=
  ∀ (l : Nat) (J Jx : List α → World → Prop) (W : World), Below w.heap.size w W → Minds t W.heap.size J → Minds t W.heap.size Jx →
    (∀ pre x W1, J pre W1 → T pre x → YieldAt F (n - 1) P l (encs x) W1 fun e W' =>
      (e = .returned (.bool true) ∧ J (pre ++ [x]) W' ∧ Kp W1 W') ∨ (e = .returned (.bool false) ∧ Jx (pre ++ [x]) W')) →
    J [] W →
    CallsIn F n P g (#[.func (.yield l) #[] #[]] ++ lb) W fun e W' => (∃ v, e = .returned v) ∧ ((∃ xs, S xs ∧ J xs W') ∨ (∃ pre, Sp pre ∧ Jx pre W'))

/-- The loop's own two blocks: its record, and the one for deferred calls. -/
def Book (H : Nat) (r : Loop) (W : World) : Prop := W.heap[H + 1]? = some (.loop r) ∧ W.heap[H]? = some (.deferred (some []))

theorem Book.keeps {H : Nat} {r : Loop} {W W' : World} (h : Book H r W) (hk : KeepsFrom H W W') : Book H r W' := ⟨hk.same _ _ (Nat.le_succ _) h.1 rfl, hk.same _ _ (Nat.le_refl _) h.2 rfl⟩
theorem Book.put {H : Nat} {r : Loop} {W : World} (h : Book H r W) (r' : Loop) : Book H r' (W.putObj (H + 1) (.loop r')) :=
  ⟨World.putObj_heap_same (Array.getElem?_eq_some_iff.1 h.1).1, (World.putObj_heap_other (by omega)).trans h.2⟩
theorem Book.minds {H : Nat} {r : Loop} {t : TypeId} {X Y : World} {B : Nat} (h : Book H r X) (hs : Below X.heap.size X Y ∨ Wrote t B X Y) : Book H r Y := by
  rcases hs with hb | hw
  · exact ⟨(hb.block _ (Array.getElem?_eq_some_iff.1 h.1).1).trans h.1, (hb.block _ (Array.getElem?_eq_some_iff.1 h.2).1).trans h.2⟩
  · exact ⟨hw.keeps h.1 (fun _ e => by cases e), hw.keeps h.2 (fun _ e => by cases e)⟩
theorem OwnT.minds {t : TypeId} {B B' : Nat} {β : Type} {I : β → World → Prop} (h : OwnT t B I) (hB : B ≤ B') : Minds t B' I := fun s X Y hs hx => by
  rcases hx with hb | ⟨r, cs, hr, hx, ho⟩
  · exact h.1 s X Y none hs ⟨hb.os, hb.tape, hb.output, hb.size, fun k hk _ => hb.block k hk⟩ (fun r e => by cases e)
  · exact h.2 s X Y hs ⟨r, cs, Nat.le_trans hB hr, hx, ho⟩

variable {n : Nat} {P : Program}

/-- How a round's way out becomes yield's answer. -/
theorem round_out {H : Nat} {r : Loop} {Kp : World → World → Prop} {α : Type} {I : List α → World → Prop} {Ix : Code → List α → World → Prop} {xs : List α} {W : World} {R : Ending → World → Prop} {t : TypeId}
    (hI : OwnT t H I) (hIx : ∀ c, OwnT t H (Ix c)) (hb : Book H { r with state := .busy } W)
    (hgo : ∀ W', Kp W W' → I xs W' → ∀ W'', W'' = W'.putObj (H + 1) (.loop { r with state := .ready, pending := none }) → Book H { r with state := .busy } W' → I xs W'' → Book H { r with state := .ready, pending := none } W'' → R (.returned (.bool true)) W'')
    (hno : ∀ c W'', Ix c xs W'' → Book H { r with state := .done, pending := some c } W'' → R (.returned (.bool false)) W'')
    (e : Exit) (a : Act) (W' : World) (hp : ownPostG H Kp I Ix xs W e a W') : roundPost P (H + 1) R e a W' := by
  have stop : ∀ c W', KeepsFrom H W W' → Ix c xs W' → ∃ v W'', (Instr.endRound (H + 1) (some c)).run P W' = .ok v W'' ∧ R (.returned v) W'' := fun c W' hk hi => by
    have hb' := hb.keeps hk
    exact ⟨_, _, run_endRound (P := P) (some c) hb'.1, hno c _ ((hIx c).1.putObj _ hi (by omega) hb'.1 rfl) (hb'.put _)⟩
  cases e with
  | normal =>
    obtain ⟨hk, hkp, hi⟩ := hp
    have hb' := hb.keeps hk
    exact ⟨_, _, run_endRound (P := P) none hb'.1, hgo W' hkp hi _ rfl hb' (hI.1.putObj _ hi (by omega) hb'.1 rfl) (hb'.put _)⟩
  | ret => exact stop _ _ hp.1 hp.2
  | exit id => exact stop _ _ hp.1 hp.2
  | goto t => exact stop _ _ hp.1 hp.2
  | panic ch => exact hp.elim
  | outgrown => exact hp.elim

theorem rangeFunc_box {t : TypeId} {α : Type} {g : Operand} {ps : Array Tmp} {assign body : Code} {Q : Exit → Act → World → Prop} {a : Act} {w : World}
    (h1 : 1 ≤ n) {gf : Nat} {lb : Array Value} (hg : a.eval g = .func (.func gf) #[] lb) (eg : ∀ args w, (callFunc gf args).run P w = .ok (.enter gf args) w)
    {encs : α → Array Value} {Kp : World → World → Prop} {S Sp : List α → Prop} {T : List α → α → Prop} {w0 : World} (hseq : SeqT t Fence.wide (n - 1) P gf lb encs Kp S Sp T w0)
    (hKt : ∀ {A B C : World}, Kp A B → Kp B C → Kp A C) (hKb : ∀ (W : World) (l : Nat) (o o' : Obj), w.heap.size ≤ l → W.heap[l]? = some o → o.isCells = false → o.isWalk = false → Kp W (W.putObj l o')) (hb0 : Below w0.heap.size w0 w) (hps : ∀ x, (encs x).size = ps.size)
    (I : List α → World → Prop) (Ix : Code → List α → World → Prop) (hI : OwnT t w.heap.size I) (hIx : ∀ c, OwnT t w.heap.size (Ix c)) (h0 : I [] w) (Ax : α → Act → World → Prop) (hAx : ∀ x a', OwnFrom w.heap.size (fun (_ : Unit) W => Ax x a' W))
    (hassign : ∀ (l : Nat) (pre : List α) (x : α) (W : World) (K : Act → World → Prop), I pre W → (∀ a' W', KeepsFrom w.heap.size W W' → Kp W W' → I pre W' → Ax x a' W' → K a' W') →
      assign.wpIn (Fence.wide.inRound l) (n - 1 - 1) P (Exit.then K (fun _ _ _ => False)) { tmps := (ps.zip (encs x)).foldl (fun t (p, v) => t.setIfInBounds p v) a.tmps, defers := [] } W)
    (hbody : ∀ (l : Nat) (pre : List α) (x : α) (a' : Act) (W : World), w.heap.size ≤ l → I pre W → Ax x a' W → T pre x → body.wpIn (Fence.wide.inRound l) (n - 1 - 1) P (ownPostG w.heap.size Kp I Ix (pre ++ [x]) W) a' W)
    (hdone : ∀ (D : Nat) (xs : List α) (W : World), w.heap.size ≤ D → S xs → I xs W → W.heap[D]? = some (.deferred (some [])) → Q .normal { a with defers := { target := .collected D, args := #[] } :: a.defers } W)
    (hstop : ∀ (D : Nat) (c : Code) (pre : List α) (W : World), w.heap.size ≤ D → Sp pre → Ix c pre W → W.heap[D]? = some (.deferred (some [])) → c.wpIn Fence.wide n P Q { a with defers := { target := .collected D, args := #[] } :: a.defers } W) :
    (Code.rangeFunc g ps assign body).wpIn Fence.wide n P Q a w := by
  have hro : Fence.wide.round = none := rfl
  refine wpIn_rangeFunc fun fn hfn => ?_
  rw [hro]
  obtain ⟨r0, hr0⟩ : ∃ r0 : Loop, r0 = { state := .ready, pending := none, fn, tmps := a.tmps, params := ps, assign, body, defers := w.heap.size } := ⟨_, rfl⟩
  have hgrow : Below w.heap.size w ((w.alloc (.deferred (some []))).alloc (.loop r0)) := ((Below.refl _ w).alloc (Nat.le_refl _) _).alloc (by simp) _
  have hbook : Book w.heap.size r0 ((w.alloc (.deferred (some []))).alloc (.loop r0)) := by
    refine ⟨?_, (Below.heap_alloc _ _ _ (by simp)).trans (World.alloc_heap_new w _)⟩
    have := World.alloc_heap_new (w.alloc (.deferred (some []))) (.loop r0)
    rwa [World.size_alloc] at this
  have hI1 : I [] ((w.alloc (.deferred (some []))).alloc (.loop r0)) := hI.minds (Nat.le_refl _) _ _ _ h0 (.inl hgrow)
  have hsz : w.heap.size ≤ ((w.alloc (.deferred (some []))).alloc (.loop r0)).heap.size := hgrow.size
  have hrun := run_enterLoop_outer (P := P) (w := w) fn a.tmps ps assign body
  rw [← hr0] at hrun
  refine ⟨w.heap.size + 1, _, _, { target := .fn (.func gf) lb, args := #[.func (.yield (w.heap.size + 1)) #[] #[]] }, (w.alloc (.deferred (some []))).alloc (.loop r0), gf,
    #[.func (.yield (w.heap.size + 1)) #[] #[]] ++ lb, (w.alloc (.deferred (some []))).alloc (.loop r0), hrun, ?_, fun _ _ => trivial, ?_, fun _ => h1, ?_⟩
  · simp only [resolve, hg]
    simp [go_sem]
  · simp [invoke, go_sem, eg]
  have hpar : r0.params = ps := by rw [hr0]
  have hst : r0.state = .ready := by rw [hr0]
  have hpe : { r0 with state := .ready, pending := none } = r0 := by rw [hr0]
  refine (hseq (w.heap.size + 1) (fun pre W => I pre W ∧ Book w.heap.size r0 W) (fun pre W => ∃ c, Ix c pre W ∧ Book w.heap.size { r0 with state := .done, pending := some c } W) _
    (hb0.trans (hgrow.mono hb0.size)) (fun s X Y hs hx => ⟨hI.minds hsz s X Y hs.1 hx, hs.2.minds hx⟩)
    (fun s X Y hs hx => by obtain ⟨c, h1, h2⟩ := hs; exact ⟨c, (hIx c).minds hsz s X Y h1 hx, h2.minds hx⟩) ?_ ⟨hI1, hbook⟩).mono ?_
  · rintro pre x W ⟨hi, hb⟩ hlen
    refine ⟨_, _, _, _, run_yield (P := P) (args := encs x) hb.1 (by rw [hpar]; exact hps x), ?_⟩
    have h := roundIn_of_wpIn (l := w.heap.size + 1) (f := fn) (R := fun e W' => (e = .returned (.bool true) ∧ (I (pre ++ [x]) W' ∧ Book w.heap.size r0 W') ∧ Kp W W') ∨ (e = .returned (.bool false) ∧ ∃ c, Ix c (pre ++ [x]) W' ∧ Book w.heap.size { r0 with state := .done, pending := some c } W')) hfn (hassign (w.heap.size + 1) pre x W _ hi fun a' Wa hka hkp hia hax => by
      have hba := hb.keeps hka
      refine ⟨_, run_beginRound (P := P) hba.1 hst, ?_⟩
      have hbu := hba.put { r0 with state := .busy }
      refine wpIn_mono (hbody _ pre x a' _ (Nat.le_succ _) (hI.1.putObj _ hia (by omega) hba.1 rfl) ((hAx x a').putObj (s := ()) _ hax (by omega) hba.1 rfl) hlen) ?_
      refine round_out hI hIx hbu ?_ ?_
      · rintro W3 hkp3 hi3 W4 e4 hb3 hi4 hb4
        rw [hpe] at hb4
        subst e4
        exact .inl ⟨rfl, ⟨hi4, hb4⟩, hKt hkp (hKt (hKt (hKb _ _ _ _ (by omega) hba.1 rfl rfl) hkp3) (hKb _ _ _ _ (by omega) hb3.1 rfl rfl))⟩
      · intro c W4 hi4 hb4
        exact .inr ⟨rfl, c, hi4, hb4⟩)
    subst hr0
    exact h
  · rintro e W2 ⟨⟨v, rfl⟩, (⟨xs, hS, hi, hb⟩ | ⟨pre, hSp, c, hi, hb⟩)⟩
    · exact ⟨_, _, run_endLoop (P := P) hb.1 (by rw [hst]; simp), by
        have e : r0.pending = none := by rw [hr0]
        rw [e]
        exact hdone _ xs _ (Nat.le_refl _) hS (hI.1.putObj _ hi (by omega) hb.1 rfl) (hb.put _).2⟩
    · exact ⟨_, _, run_endLoop (P := P) hb.1 (by simp), hstop _ c pre _ (Nat.le_refl _) hSp ((hIx c).1.putObj _ hi (by omega) hb.1 rfl) (hb.put _).2⟩

end Go.Proofs.Ytecmiphmefbpnaa.E

/- Moves through a statement whose order Go leaves open, where every call leaves alone what was there, but for one block. No program is named here. -/
import Derived.Test.YtaichjkenfnkbaaDraw
import Derived.Test.YtaichjkenfnkbaaStrs
namespace Go.By
open Go.RowKit
set_option linter.unusedVariables false

theorem gb_refl (w : World) (row : Option Nat) : w.grownBy w row := ⟨rfl, rfl, rfl, Nat.le_refl _, fun _ _ _ => rfl⟩
theorem gb_trans {a b c : World} {row : Option Nat} (h : a.grownBy b row) (k : b.grownBy c row) : a.grownBy c row :=
  ⟨k.os.trans h.os, k.tape.trans h.tape, k.output.trans h.output, Nat.le_trans h.size k.size, fun i hi hne => (k.block i (Nat.lt_of_lt_of_le hi h.size) hne).trans (h.block i hi hne)⟩
theorem gb_below {w w' : World} {row : Option Nat} (h : Below w.heap.size w w') : w.grownBy w' row := ⟨h.os, h.tape, h.output, h.size, fun k hk _ => h.block k hk⟩
theorem below_gb {w w' : World} {g B : Nat} (h : w.grownBy w' (some g)) (hB : B ≤ g) (hw : B ≤ w.heap.size) : Below B w w' :=
  (Below.refl _ _).grown h hw fun k hk => by cases hk; exact hB
theorem gb_drew (w : World) (row : Option Nat) : w.grownBy w.drew row := ⟨rfl, rfl, rfl, Nat.le_refl _, fun _ _ _ => rfl⟩

section
variable {P : Program} {ops : Array Oper} {Q : Exit → Act → World → Prop} {md : Region.Mode} {row : Option Nat}

/-- From here on: whatever order, while all that is in the world w stays, but for the block 'row'. -/
def GoingR (row : Option Nat) (P : Program) (md : Region.Mode) (ops : Array Oper) (Q : Exit → Act → World → Prop) (fuel : Nat) (listed : Array Bool) (a : Act) (w : World) : Prop :=
  wpAnyH P md ops Q (fun w' => w.grownBy w' row) fuel listed a w

theorem goingR_start (row : Option Nat) {id : Nat} {a : Act} {w : World} (hm : P.follows .mixedOrders = true)
    (h : GoingR row P .any ops Q ops.size (Array.replicate ops.size false) a w.drew) : (Code.region id ops true).wp P Q a w :=
  wp_region_held hm h

theorem goingR_take {i : Nat} {oi : Oper} {v : Value} {fuel : Nat} {listed : Array Bool} {a : Act} {w : World} (hi : ops[i]? = some oi)
    (hs : Region.noSelect ops = true) (hf : Region.free md ops listed i = true) (hr : (Region.ready md ops listed).contains i = true)
    (hQ : ∀ c a w, Q (.panic c) (a.put oi.dst v) w → Q (.panic c) a w)
    (hw : Region.wanted oi (yielded ops a.tmps) = true) (hy : ∀ w', w.grownBy w' row → (execOp a.eval oi).run P w' = .ok (.value v) w')
    (h : GoingR row P md ops Q fuel (listed.setIfInBounds i true) (a.put oi.dst v) w) : GoingR row P md ops Q (fuel + 1) listed a w :=
  wpAnyH_take hi hs hf hr hQ (.inl ⟨hw, hy⟩) (gb_refl _ _) h

theorem goingR_skip {i : Nat} {oi : Oper} {fuel : Nat} {listed : Array Bool} {a : Act} {w : World} (hi : ops[i]? = some oi)
    (hs : Region.noSelect ops = true) (hf : Region.free md ops listed i = true) (hr : (Region.ready md ops listed).contains i = true)
    (hQ : ∀ c a w, Q (.panic c) (a.put oi.dst undef) w → Q (.panic c) a w)
    (hw : Region.wanted oi (yielded ops a.tmps) = false)
    (h : GoingR row P md ops Q fuel (listed.setIfInBounds i true) (a.put oi.dst undef) w) : GoingR row P md ops Q (fuel + 1) listed a w :=
  wpAnyH_take hi hs hf hr hQ (.inr ⟨hw, rfl⟩) (gb_refl _ _) h

theorem goingR_step {i : Nat} {o : Oper} {fuel : Nat} {listed : Array Bool} {a : Act} {w : World} (hr : Region.ready md ops listed = [i]) (ho : ops[i]? = some o)
    (hw : Region.wanted o (yielded ops a.tmps) = true)
    (h : ∀ K' : Act → World → Prop, Shut (∀ a' w', w.grownBy w' row → GoingR row P md ops Q fuel (listed.setIfInBounds i true) a' w' → K' a' w') → Oper.wp P o a w K' Q) :
    GoingR row P md ops Q (fuel + 1) listed a w := by
  refine wpAnyH_ready hr (by simp) (AllReadyH.cons ho (fun K' hK => ?_) AllReadyH.nil)
  rw [if_pos hw]
  refine h K' fun a' w' hb hg => hK.out a' w' hb fun _ => ?_
  exact wpAnyH_mono (fun w2 h2 => gb_trans hb h2) fuel _ a' w' hg

/-- Two operations can come up, in either order. -/
theorem goingR_fork {i j : Nat} {oi oj : Oper} {fuel : Nat} {listed : Array Bool} {a : Act} {w : World} (hr : Region.ready md ops listed = [i, j]) (hoi : ops[i]? = some oi) (hoj : ops[j]? = some oj)
    (hwi : Region.wanted oi (yielded ops a.tmps) = true) (hwj : Region.wanted oj (yielded ops a.tmps) = true)
    (h1 : ∀ K' : Act → World → Prop, Shut (∀ a' w', w.grownBy w' row → GoingR row P md ops Q fuel (listed.setIfInBounds i true) a' w' → K' a' w') → Oper.wp P oi a w K' Q)
    (h2 : ∀ K' : Act → World → Prop, Shut (∀ a' w', w.grownBy w' row → GoingR row P md ops Q fuel (listed.setIfInBounds j true) a' w' → K' a' w') → Oper.wp P oj a w K' Q) :
    GoingR row P md ops Q (fuel + 1) listed a w := by
  refine wpAnyH_ready hr (by simp) (AllReadyH.cons hoi (fun K' hK => ?_) (AllReadyH.cons hoj (fun K' hK => ?_) AllReadyH.nil))
  · rw [if_pos hwi]
    exact h1 K' fun a' w' hb hg => hK.out a' w' hb fun _ => wpAnyH_mono (fun w2 h2 => gb_trans hb h2) fuel _ a' w' hg
  · rw [if_pos hwj]
    exact h2 K' fun a' w' hb hg => hK.out a' w' hb fun _ => wpAnyH_mono (fun w2 h2 => gb_trans hb h2) fuel _ a' w' hg

theorem goingR_done {listed : Array Bool} {a : Act} {w : World} {fuel : Nat} (hr : Region.ready md ops listed = []) (h : Q .normal a w) : GoingR row P md ops Q fuel listed a w :=
  wpAnyH_done hr h fuel
end

/-- The value's string is that of l, and stays so while only the block 'row' turns. -/
def SaysR (row : Option Nat) (P : Program) (w : World) (v : Value) (l : List Nat) : Prop := ∀ w', w.grownBy w' row → (convert 22 9 v).run P w' = .ok (.string (str l)) w'

theorem SaysR.after {row : Option Nat} {P : Program} {w w' : World} {v : Value} {l : List Nat} (h : SaysR row P w v l) (hb : w.grownBy w' row) : SaysR row P w' v l :=
  fun w2 h2 => h w2 (gb_trans hb h2)

theorem saysR_lies {P : Program} (h22 : P.underlying 22 = some (.slice 5)) (h5 : P.underlying 5 = some (.int .u8)) (h9 : P.underlying 9 = some .string)
    {row : Option Nat} {w : World} {a : Option Addr} {l : List Nat} {n cap : Nat} (h : Lies w a l) (hn : l.length = n) (hne : ∀ x, a = some x → l ≠ [] → some x.block ≠ row) : SaysR row P w (.slice a n cap) l := by
  intro w' hb
  refine run_str 22 5 9 h22 h5 h9 ⟨h.1, ?_⟩ n cap hn
  rcases h.2 with h0 | ⟨b, off, rfl, hc⟩
  · exact .inl h0
  · by_cases h0 : l = []
    · exact .inl h0
    · refine .inr ⟨b, off, rfl, fun i hi => ?_⟩
      have h1 := hc i hi
      rw [← h1]
      exact World.cell?_of_block (hb.block b (World.block_lt_of_cell? w _ h1) (hne _ rfl h0))

theorem saysR_owns {P : Program} (h22 : P.underlying 22 = some (.slice 5)) (h5 : P.underlying 5 = some (.int .u8)) (h9 : P.underlying 9 = some .string)
    {w : World} {g base : Nat} {v : Value} {l : List Nat} (h : Owns w base v l) (hg : g < base) : SaysR (some g) P w v l := by
  obtain ⟨a, cap, rfl, _, _, hL, _, hb⟩ := h.form
  refine saysR_lies h22 h5 h9 hL rfl fun x hx _ => ?_
  have := (hb x hx).1
  intro e
  have : x.block = g := by simpa using e
  omega

end Go.By

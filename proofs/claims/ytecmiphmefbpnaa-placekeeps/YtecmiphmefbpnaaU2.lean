/- Runs, one behind the other, each with its place. -/
import Derived.Test.YtecmiphmefbpnaaU1
import Derived.Test.YtecmiphmefbpnaaUL
namespace Go.Proofs.Ytecmiphmefbpnaa.E
open Go.Proofs.Ytecmiphmefbpnaa Go.RowKit Go.By Go.Shelf
set_option linter.unusedVariables false
attribute [local go_sem] Oper.semAt_some

/-- How many bytes runs are of, and how many they make. -/
def sI (rs : List Rn) : Int := (rs.map fun x => x.keep + x.drop).sum
def sO (rs : List Rn) : Int := (rs.map fun x => x.keep + (x.add.size : Int)).sum
theorem sI_snoc (rs : List Rn) (x : Rn) : sI (rs ++ [x]) = sI rs + (x.keep + x.drop) := by simp [sI]
theorem sO_snoc (rs : List Rn) (x : Rn) : sO (rs ++ [x]) = sO rs + (x.keep + (x.add.size : Int)) := by simp [sO]
theorem sI_cons (x : Rn) (rs : List Rn) : sI (x :: rs) = (x.keep + x.drop) + sI rs := by simp [sI]
theorem sO_cons (x : Rn) (rs : List Rn) : sO (x :: rs) = (x.keep + (x.add.size : Int)) + sO rs := by simp [sO]
theorem sums_nonneg {rs : List Rn} (h : ∀ x ∈ rs, kind x ≠ 0) : 0 ≤ sI rs ∧ 0 ≤ sO rs := by
  induction rs with
  | nil => exact ⟨Int.le_refl _, Int.le_refl _⟩
  | cons x rs ih =>
    obtain ⟨h1, h2, _, _⟩ := kind_facts (h x List.mem_cons_self)
    have := ih fun y hy => h y (List.mem_cons_of_mem _ hy)
    rw [sI_cons, sO_cons]; omega
theorem sI_append (a b : List Rn) : sI (a ++ b) = sI a + sI b := by simp [sI]
theorem sO_append (a b : List Rn) : sO (a ++ b) = sO a + sO b := by simp [sO]
theorem sums_take {rs : List Rn} (h : ∀ x ∈ rs, kind x ≠ 0) (k : Nat) : (0 ≤ sI (rs.take k) ∧ sI (rs.take k) ≤ sI rs) ∧ (0 ≤ sO (rs.take k) ∧ sO (rs.take k) ≤ sO rs) := by
  have h1 := sums_nonneg (rs := rs.take k) fun x hx => h x (List.mem_of_mem_take hx)
  have h2 := sums_nonneg (rs := rs.drop k) fun x hx => h x (List.mem_of_mem_drop hx)
  have e1 := congrArg sI (List.take_append_drop k rs)
  have e2 := congrArg sO (List.take_append_drop k rs)
  rw [sI_append] at e1
  rw [sO_append] at e2
  omega

/-- A run with its place. -/
abbrev Pl := Int × Int × Rn
def plc (rs : List Rn) : List Pl := (List.range rs.length).map fun k => (sI (rs.take k), sO (rs.take k), rs.getD k rn0)
theorem length_plc (rs : List Rn) : (plc rs).length = rs.length := by simp [plc]
theorem plc_take {rs : List Rn} {k : Nat} (h : k < rs.length) : (plc rs).take (k + 1) = (plc rs).take k ++ [(sI (rs.take k), sO (rs.take k), rs.getD k rn0)] := by
  rw [List.take_succ_eq_append_getElem (by rw [length_plc]; exact h)]
  simp [plc]
theorem plc_at {rs : List Rn} {pre : List Pl} {x : Pl} (h : pre ++ [x] <+: plc rs) : pre.length < rs.length ∧ x = (sI (rs.take pre.length), sO (rs.take pre.length), rs.getD pre.length rn0) ∧ pre = (plc rs).take pre.length := by
  have hl : pre.length < rs.length := by have := h.length_le; rw [length_plc] at this; simp at this; omega
  obtain ⟨t, e⟩ := h
  refine ⟨hl, ?_, ?_⟩
  · have : (plc rs)[pre.length]? = some x := by rw [← e]; simp
    simpa [plc, hl] using this.symm
  · rw [← e, List.append_assoc, List.take_left]
theorem plc_whole {rs : List Rn} : (plc rs).length = rs.length := length_plc rs

def encP (x : Pl) : Array Value := #[.agg #[.int .i64 x.1, .int .i64 x.2.1], .agg #[.int .i64 x.2.2.keep, .string x.2.2.add, .int .i64 x.2.2.drop]]

/-- What a round must keep: what lay ahead, the places, and the runs that came since the loop began. -/
def KeepP (n₀ N₀ : Nat) (X Y : World) : Prop := Below n₀ X Y ∧ (∀ (k : Nat) (cs : Array Value), X.heap[k]? = some (.cells cs 69 (0, 0)) → Y.heap[k]? = some (.cells cs 69 (0, 0))) ∧ ∀ (k : Nat) (cs : Array Value), N₀ ≤ k → X.heap[k]? = some (.cells cs 51 (0, 0)) → Y.heap[k]? = some (.cells cs 51 (0, 0))
theorem KeepP.refl (n₀ N₀ : Nat) (X : World) : KeepP n₀ N₀ X X := ⟨Below.refl _ _, fun _ _ h => h, fun _ _ _ h => h⟩
theorem KeepP.trans {n₀ N₀ : Nat} {X Y Z : World} (h : KeepP n₀ N₀ X Y) (h' : KeepP n₀ N₀ Y Z) : KeepP n₀ N₀ X Z := ⟨h.1.trans h'.1, fun k cs e => h'.2.1 k cs (h.2.1 k cs e), fun k cs hk e => h'.2.2 k cs hk (h.2.2 k cs hk e)⟩
theorem KeepP.of_below {n₀ N₀ : Nat} {X Y : World} (hn : n₀ ≤ X.heap.size) (h : Below X.heap.size X Y) : KeepP n₀ N₀ X Y := ⟨h.mono hn, fun k cs e => (h.block k (lt_of_heap e)).trans e, fun k cs _ e => (h.block k (lt_of_heap e)).trans e⟩
theorem KeepP.put {n₀ N₀ : Nat} {w : World} (hn : n₀ ≤ w.heap.size) (W : World) (l : Nat) (o o' : Obj) (hl : w.heap.size ≤ l) (h : W.heap[l]? = some o) (hc : o.isCells = false) (hw : o.isWalk = false) : KeepP n₀ N₀ W (W.putObj l o') :=
  ⟨belowK_b hn W l o o' hl h hc hw, fun k cs e => (World.putObj_heap_other (fun hk => by rw [← hk, e] at h; cases h; cases hc)).trans e, fun k cs _ e => (World.putObj_heap_other (fun hk => by rw [← hk, e] at h; cases h; cases hc)).trans e⟩

/-- How a round ended. -/
def WentP (n₀ N₀ : Nat) (W : World) (G Gx : World → Prop) (b : Bool) (W' : World) : Prop := (b = true ∧ G W' ∧ KeepP n₀ N₀ W W') ∨ (b = false ∧ Gx W')
theorem wentP_of {n₀ N₀ : Nat} {W : World} {G Gx : World → Prop} {e : Ending} {W' : World} (h : (e = .returned (.bool true) ∧ G W' ∧ KeepP n₀ N₀ W W') ∨ (e = .returned (.bool false) ∧ Gx W')) : ∃ b, e = .returned (.bool b) ∧ WentP n₀ N₀ W G Gx b W' :=
  h.elim (fun h => ⟨true, h.1, .inl ⟨rfl, h.2⟩⟩) fun h => ⟨false, h.1, .inr ⟨rfl, h.2⟩⟩

theorem cellsq {W : World} {q : Nat} {x y z : Value} (h : W.heap[q]? = some (.cells #[x, y, z] 51 (0, 0))) : W.cell? ⟨q, 0, none⟩ = some x ∧ W.cell? ⟨q, 1, none⟩ = some y ∧ W.cell? ⟨q, 2, none⟩ = some z :=
  ⟨by rw [Joins.cell_of_block h]; rfl, by rw [Joins.cell_of_block h]; rfl, by rw [Joins.cell_of_block h]; rfl⟩
theorem cellsp {W : World} {q : Nat} {x y : Value} (h : W.heap[q]? = some (.cells #[x, y] 69 (0, 0))) : W.cell? ⟨q, 0, none⟩ = some x ∧ W.cell? ⟨q, 1, none⟩ = some y :=
  ⟨by rw [Joins.cell_of_block h]; rfl, by rw [Joins.cell_of_block h]; rfl⟩

set_option maxRecDepth 100000 in
set_option maxHeartbeats 4000000 in
theorem steps1 (n : Nat) (hn : 1 ≤ n) (l Bn n₀ N₀ : Nat) (a : Option Addr) (cap : Nat) (rs : List Rn) (J Jx : List Pl → World → Prop) (W : World) (hJ : Minds 69 W.heap.size J)
    (hK : ∀ x ∈ rs, kind x ≠ 0) (hsI : sI rs ≤ 16777216) (hsO : sO rs ≤ 16777216)
    (hY : ∀ pre x W, J pre W → pre ++ [x] <+: plc rs → YieldAt Fence.wide (n - 1) Try.prog l (encP x) W fun e W' =>
      (e = .returned (.bool true) ∧ J (pre ++ [x]) W' ∧ KeepP n₀ N₀ W W') ∨ (e = .returned (.bool false) ∧ Jx (pre ++ [x]) W'))
    (hn₀ : n₀ ≤ W.heap.size) (hN₀ : N₀ ≤ W.heap.size) (hc : W.cell? ⟨Bn, 0, none⟩ = some (.slice a rs.length cap)) (hBn : Bn < W.heap.size) (hS : CameR n₀ W a rs) (hlen : rs.length ≤ 1000000) (h0 : J [] W) :
    CallsIn Fence.wide n Try.prog 44 #[.func (.yield l) #[] #[], .pointer (some ⟨Bn, 0, none⟩)] W fun e W' => (∃ v, e = .returned v) ∧
      ((∃ zs, zs = plc rs ∧ J zs W') ∨ (∃ pre, pre <+: plc rs ∧ Jx pre W')) := by
  have hro : Fence.wide.round = none := rfl
  have h137 : Fence.wide.fn 44 := trivial
  have h138 : Fence.wide.fn 45 := trivial
  refine callsIn_of_wp Try.func44 rfl trivial ?_ rfl
  simp only [Try.ntmps44, List.size_toArray, List.length_cons, List.length_nil, Nat.reduceAdd, Nat.reduceSub, Array.replicate_succ, Array.replicate_zero, List.push_toArray, List.append_toArray, List.nil_append, List.cons_append]
  have hc' : (W.alloc (.cells #[.int .i64 0, .int .i64 0] 69)).cell? ⟨Bn, 0, none⟩ = some (.slice a rs.length cap) := (((Below.refl _ W).alloc (Nat.le_refl _) _).cell (p := ⟨Bn, 0, none⟩) hBn).trans hc
  have hJ0 : J [] (W.alloc (.cells #[.int .i64 0, .int .i64 0] 69)) := hJ _ _ _ h0 (.inl ((Below.refl _ W).alloc (Nat.le_refl _) _))
  have hp0 := World.alloc_heap_new W (.cells #[.int .i64 0, .int .i64 0] 69)
  have HP0 := hide hp0
  clear hp0
  gi_wp2
  gi_loopw [8] (fun i wr => ∃ k : Nat, k ≤ rs.length ∧ i = .int .i64 k ∧ J ((plc rs).take k) wr ∧ Below n₀ W wr ∧ W.heap.size ≤ wr.heap.size ∧ Hid (wr.heap[W.heap.size]? = some (.cells #[.int .i64 (sI (rs.take k)), .int .i64 (sO (rs.take k))] 69 (0, 0))))
    (fun i _ => rs.length - (intOf i).toNat)
  case atStart => exact ⟨0, Nat.zero_le _, rfl, by simpa using hJ0, (Below.refl _ W).alloc hn₀ _, by simp, HP0⟩
  case round =>
    obtain ⟨k, hk, rfl, hJs, hnx, hszw, HP⟩ := hrel
    by_cases hlt : k < rs.length
    · obtain ⟨b, off, rfl, hbl, hcell⟩ : ∃ b off, a = some ⟨b, off, none⟩ ∧ b < n₀ ∧ _ := by
        rcases hS.below hnx with rfl | h
        · simp at hlt
        · exact h
      obtain ⟨s0, s1, s2⟩ := hcell k hlt
      have hsn := plc_take hlt
      have hr1 : rs.take (k + 1) = rs.take k ++ [rs.getD k rn0] := by rw [List.take_succ_eq_append_getElem hlt]; simp [List.getD, hlt]
      have hkx : kind (rs.getD k rn0) ≠ 0 := hK _ (by simp [List.getD, hlt])
      have st1 := sums_take hK k
      have st2 := sums_take hK (k + 1)
      rw [hr1, sI_snoc, sO_snoc] at st2
      have eI : sI (rs.take (k + 1)) = sI (rs.take k) + ((rs.getD k rn0).keep + (rs.getD k rn0).drop) := by rw [hr1, sI_snoc]
      have eO : sO (rs.take (k + 1)) = sO (rs.take k) + ((rs.getD k rn0).keep + ((rs.getD k rn0).add.size : Int)) := by rw [hr1, sO_snoc]
      obtain ⟨x, hx⟩ : ∃ x, x = rs.getD k rn0 := ⟨_, rfl⟩
      rw [← hx] at s0 s1 s2 hsn hkx eI eO st2
      obtain ⟨xk, xa, xd⟩ := x
      replace s0 : wr.cell? ⟨b, off + k * 3, none⟩ = some (.int .i64 xk) := s0
      replace s1 : wr.cell? ⟨b, off + k * 3 + 1, none⟩ = some (.string xa) := s1
      replace s2 : wr.cell? ⟨b, off + k * 3 + 2, none⟩ = some (.int .i64 xd) := s2
      replace eI : sI (rs.take (k + 1)) = sI (rs.take k) + (xk + xd) := eI
      replace eO : sO (rs.take (k + 1)) = sO (rs.take k) + (xk + (xa.size : Int)) := eO
      obtain ⟨i, hi⟩ : ∃ i, i = sI (rs.take k) := ⟨_, rfl⟩
      obtain ⟨o, ho⟩ : ∃ o, o = sO (rs.take k) := ⟨_, rfl⟩
      rw [← hi] at hsn HP eI st1 st2
      rw [← ho] at hsn HP eO st1 st2
      have hbi : 0 ≤ i ∧ i + (xk + xd) ≤ 16777216 := ⟨st1.1.1, by have := st2.1.2; show i + (xk + xd) ≤ 16777216; exact Int.le_trans this hsI⟩
      have hbo : 0 ≤ o ∧ o + (xk + (xa.size : Int)) ≤ 16777216 := ⟨st1.2.1, by have := st2.2.2; exact Int.le_trans this hsO⟩
      have HSN := hide hsn
      have hlt' : (k : Int) < (rs.length : Int) := by omega
      have hba : Below wr.heap.size wr (wr.alloc (.cells #[.int .i64 xk, .string xa, .int .i64 xd] 51)) := (Below.refl _ _).alloc (Nat.le_refl _) _
      have HBA := hide hba
      have hJk : (plc rs).take k ++ [(i, o, ⟨xk, xa, xd⟩)] <+: plc rs := by rw [← hsn]; exact List.take_prefix _ _
      obtain ⟨fn, tmps, assign, body, hy, hR⟩ := hY ((plc rs).take k) (i, o, ⟨xk, xa, xd⟩) _ (hJ _ _ _ hJs (.inl hba)) hJk
      rw [← hsn] at hR
      replace hR := hR.mono fun e W' h => wentP_of h
      have z := cellsp ((hba.block _ (lt_of_heap HP.out)).trans HP.out)
      obtain ⟨z0, z1⟩ := z
      have y := cellsq (World.alloc_heap_new wr (.cells #[.int .i64 xk, .string xa, .int .i64 xd] 51))
      obtain ⟨y0, y1, y2⟩ := y
      have hnw : n₀ ≤ wr.heap.size := Nat.le_trans hn₀ hszw
      have HE := hide (And.intro eI eO)
      have HJ := hide hJ
      have hqr := World.alloc_heap_new wr (.cells #[.int .i64 xk, .string xa, .int .i64 xd] 51)
      have hpl := (hba.block _ (lt_of_heap HP.out)).trans HP.out
      have HG : ∀ W3, KeepP n₀ N₀ (wr.alloc (.cells #[.int .i64 xk, .string xa, .int .i64 xd] 51)) W3 → W3.heap[wr.heap.size]? = some (.cells #[.int .i64 xk, .string xa, .int .i64 xd] 51 (0, 0)) ∧ W3.heap[W.heap.size]? = some (.cells #[.int .i64 i, .int .i64 o] 69 (0, 0)) ∧ W.heap.size ≤ W3.heap.size ∧ Below n₀ W W3 := fun W3 hk3 =>
        ⟨hk3.2.2 _ _ (Nat.le_trans hN₀ hszw) hqr, hk3.2.1 _ _ hpl, Nat.le_trans hszw (Nat.le_trans hba.size hk3.1.size), (hnx.trans (hba.mono hnw)).trans hk3.1⟩
      have HGG := hide HG
      have HB := hide (And.intro hbi hbo)
      have HKX := hide hkx
      clear hcell hx hsn hba hJs hY hr1 st1 st2 eI eO hi ho hJ hbi hbo hkx HG hqr hpl
      unfold encP at hy
      dsimp only at hy
      gi_wp2_with fail
      refine hR.mono ?_
      · rintro e W3 ⟨bb, rfl, hW3⟩
        rcases hW3 with ⟨rfl, hJ3, hk3⟩ | ⟨rfl, hJx3⟩
        · obtain ⟨b1, b2, b3, b4⟩ := HGG.out W3 hk3
          obtain ⟨q0, q1, q2⟩ := cellsq b1
          have hst := step_any b2 HKX.out HB.out.1 HB.out.2
          have HB2 := hide b2
          have HJ3 := hide hJ3
          clear b1 b2 hk3 hJ3
          gi_wp2_with (gi_at_call 45; refine (callsIn_wide.2 hst).mono ?_; rintro e W4 ⟨rfl, hp4, ho4⟩; have HP4 := hide hp4; have HO4 := hide ho4; clear hp4 ho4)
          go_roundw
          case rel => exact ⟨k + 1, by omega, by simp, HJ.out _ _ _ HJ3.out (.inr ⟨_, _, Nat.le_refl _, HB2.out, HO4.out⟩), b4.trans (HO4.out.below (Nat.le_trans hn₀ b3) fun i hi => by omega), Nat.le_trans b3 HO4.out.size, by rw [HE.out.1, HE.out.2]; exact HP4⟩
          case measure => simp [intOf]; omega
        · gi_wp2
          refine bodyPost_ret (results_none rfl _ _ _) rfl ?_
          exact ⟨⟨_, rfl⟩, .inr ⟨_, List.take_prefix _ _, hJx3⟩⟩
    · obtain rfl : k = rs.length := by omega
      have hw : (plc rs).take rs.length = plc rs := by rw [← length_plc rs, List.take_length]
      rw [hw] at hJs
      gi_wp2
      go_end0
      exact ⟨⟨_, rfl⟩, .inl ⟨_, rfl, hJs⟩⟩

set_option maxHeartbeats 1000000 in
theorem steps_any (n : Nat) (a : Option Addr) (m cap : Nat) (w : World) :
    CallsIn Fence.wide n Try.prog 32 #[.slice a m cap] w fun e w' => e = .returned (.func (.func 44) #[] #[.pointer (some ⟨w.heap.size, 0, none⟩)]) ∧ w' = w.alloc (.cells #[.slice a m cap] 22) := by
  refine callsIn_of_wp Try.func32 rfl trivial ?_ rfl
  simp only [Try.ntmps32, List.size_toArray, List.length_cons, List.length_nil, Nat.reduceAdd, Nat.reduceSub, Array.replicate_succ, Array.replicate_zero, List.push_toArray, List.append_toArray, List.nil_append, List.cons_append]
  gi_wp2
  go_ret
  exact ⟨rfl, rfl⟩

theorem steps_stops (n : Nat) (hn : 1 ≤ n) (Bn n₀ N₀ : Nat) (a : Option Addr) (cap : Nat) (rs : List Rn) (w : World) (hK : ∀ x ∈ rs, kind x ≠ 0) (hsI : sI rs ≤ 16777216) (hsO : sO rs ≤ 16777216)
    (hBn : Bn < w.heap.size) (hn₀ : n₀ ≤ w.heap.size) (hN₀ : N₀ ≤ w.heap.size) (hc : w.cell? ⟨Bn, 0, none⟩ = some (.slice a rs.length cap)) (hS : CameR n₀ w a rs) (hlen : rs.length ≤ 1000000) :
    SeqT 69 Fence.wide n Try.prog 44 #[.pointer (some ⟨Bn, 0, none⟩)] encP (KeepP n₀ N₀) (fun zs => zs = plc rs) (fun pre => pre <+: plc rs) (fun pre x => pre ++ [x] <+: plc rs) w := fun l J Jx W hW hJ _ hY h0 =>
  steps1 n hn l Bn n₀ N₀ a cap rs J Jx W hJ hK hsI hsO hY (Nat.le_trans hn₀ hW.size) (Nat.le_trans hN₀ hW.size) ((hW.cell (p := ⟨Bn, 0, none⟩) hBn).trans hc) (Nat.lt_of_lt_of_le hBn hW.size) (hS.below (hW.mono hn₀)) hlen h0

end Go.Proofs.Ytecmiphmefbpnaa.E

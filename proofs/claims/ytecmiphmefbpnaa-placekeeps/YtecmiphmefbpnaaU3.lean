/- An edit, done: the program's way. -/
import Derived.Test.YtecmiphmefbpnaaU2
import Derived.Test.YtecmiphmefbpnaaPD
import Derived.Test.YtecmiphmefbpnaaBuild
namespace Go.Proofs.Ytecmiphmefbpnaa.E
open Go.Proofs.Ytecmiphmefbpnaa Go.RowKit Go.By Go.Shelf
set_option linter.unusedVariables false
set_option linter.unusedSimpArgs false
attribute [local go_sem] Oper.semAt_some


theorem builder_kept {B b : Nat} {bs : List Value} {X Y : World} (h : Lib.IsBuilderF 63 5 B b bs X) (hk : ∀ (k : Nat) (c : Array Value) (t : TypeId) (fz : Nat × Nat), t = 63 ∨ t = 5 → X.heap[k]? = some (.cells c t fz) → Y.heap[k]? = some (.cells c t fz)) : Lib.IsBuilderF 63 5 B b bs Y := by
  have key : ∀ p, Lib.BuilderAtF 63 5 B b p bs X → Lib.BuilderAtF 63 5 B b p bs Y := fun p h => by
    obtain ⟨hB, v, hb, hown, hne⟩ := h
    refine ⟨hB, v, hk _ _ _ _ (.inl rfl) hb, ⟨hown.1, hown.2.imp id ?_⟩, hne⟩
    rintro ⟨g, cap, cur, fz, hv, hg, hgg, r⟩
    exact ⟨g, cap, cur, fz, hv, hg, hk _ _ _ _ (.inr rfl) hgg, r⟩
  exact h.imp (key _) (key _)


/-- Is it an edit of so many bytes? -/
def fitsR (rs : List Rn) (n : Int) : Bool := isG rs && decide (mIn (meas rs) = n)
theorem fits_facts {rs : List Rn} {n : Int} (h : fitsR rs n = true) : isG rs = true ∧ (tIn (expand rs) : Int) = n ∧ tOut (expand rs) ≤ 16777216 ∧ tIn (expand rs) ≤ 16777216 ∧ rs.length ≤ 65536 ∧ mOut (meas rs) = (tOut (expand rs) : Int) := by
  unfold fitsR at h
  rw [Bool.and_eq_true, decide_eq_true_eq] at h
  obtain ⟨j, hj, h1, h2, h3⟩ := good_facts h.1
  refine ⟨h.1, ?_, h2, h1, h3, by rw [hj]; rfl⟩
  rw [← h.2, hj]; rfl

set_option maxRecDepth 20000 in
set_option maxHeartbeats 4000000 in
theorem fits_any (a : Option Addr) (cap : Nat) (rs : List Rn) (n : Int) (w : World) (hS : CameR w.heap.size w a rs) (hl : rs.length ≤ 1000000) :
    Calls Try.prog 29 #[.slice a rs.length cap, .int .i64 n] w fun e W' => e = .returned (.bool (fitsR rs n)) ∧ Below w.heap.size w W' := by
  have hg := good_any a cap rs w hS hl
  obtain ⟨g, hgg⟩ : ∃ g, isG rs = g := ⟨_, rfl⟩
  have HF : Hid (fitsR rs n = (g && decide (mIn (meas rs) = n))) := hide (by rw [fitsR, hgg])
  rw [show (meas rs).isSome = g from hgg] at hg
  have HS := hide hS
  clear hgg hS
  obtain ⟨m, hm⟩ : ∃ m, mIn (meas rs) = m := ⟨_, rfl⟩
  have hin : ∀ W, CameR W.heap.size W a rs → Calls Try.prog 38 #[.slice a rs.length cap] W fun e W' => e = .returned (.int .i64 m) ∧ Below W.heap.size W W' := fun W h => by rw [← hm]; exact in_any a cap rs W h hl
  rw [hm] at HF
  clear hm
  go_enter Try.func29, Try.ntmps29
  cases g with
  | false =>
    go_wp2_with (go_at_call 37; refine hg.mono ?_; rintro e W1 ⟨rfl, hb⟩; have HB := hide hb; clear hb)
    go_ret
    exact ⟨by rw [HF.out]; rfl, HB.out⟩
  | true =>
    go_wp2_with (first
      | (go_at_call 37; refine hg.mono ?_; rintro e W1 ⟨rfl, hb⟩; have HB := hide hb; clear hb)
      | (go_at_call 38; refine (hin W1 (came_up HS.out HB.out)).mono ?_; rintro e W2 ⟨rfl, hb⟩; have HB2 := hide (HB.out.trans (hb.mono HB.out.size)); clear hb))
    go_ret
    exact ⟨by rw [HF.out, Bool.true_and]; rfl, HB2.out⟩

/-- What Apply tells. -/
def applyV (rs : List Rn) (s : ByteArray) : Value := if fitsR rs s.size = true then .tuple #[.string (outB s rs), .int .i64 0] else .tuple #[.string ⟨#[]⟩, .int .i64 60]

def AA (a : Option Addr) (n cap : Nat) (s : ByteArray) (H b Bn : Nat) (o : Int) (x : Pl) (q1 q2 : Nat) : Act := { tmps := #[.slice a n cap, .string s, undef, .pointer (some ⟨H, 0, none⟩), .string ⟨#[]⟩, .int .i64 0, .pointer (some ⟨b, 0, none⟩), .pointer (some ⟨q1, 0, none⟩), .pointer (some ⟨q2, 0, none⟩), .slice a n cap, .string s, .int .i64 (s.size : Int), .bool true, .bool false, .slice a n cap, .int .i64 o, .tuple #[], .slice a n cap, .func (.func 44) #[] #[.pointer (some ⟨Bn, 0, none⟩)], .agg #[.int .i64 x.1, .int .i64 x.2.1], .agg #[.int .i64 x.2.2.keep, .string x.2.2.add, .int .i64 x.2.2.drop], undef, undef, undef, undef, undef, undef, undef, undef, undef, undef, undef, undef, undef, undef], defers := [] }
def AAx (a : Option Addr) (n cap : Nat) (s : ByteArray) (H b Bn : Nat) (o : Int) (x : Pl) (a' : Act) (W : World) : Prop := ∃ q1 q2, a' = AA a n cap s H b Bn o x q1 q2 ∧ W.heap[q1]? = some (.cells #[.int .i64 x.1, .int .i64 x.2.1] 69 (0, 0)) ∧ W.heap[q2]? = some (.cells #[.int .i64 x.2.2.keep, .string x.2.2.add, .int .i64 x.2.2.drop] 51 (0, 0))
theorem aax_own (a : Option Addr) (n cap : Nat) (s : ByteArray) (H b Bn : Nat) (o : Int) (x : Pl) (a' : Act) : Own (fun (_ : Unit) W => AAx a n cap s H b Bn o x a' W) := fun _ X Y row h hg hrow => by
  obtain ⟨q1, q2, e, h1, h2⟩ := h
  exact ⟨q1, q2, e, cells_keep h1 hg hrow, cells_keep h2 hg hrow⟩

/-- Between two rounds of Apply. -/
def AI (w : World) (H b : Nat) (s : ByteArray) (rs : List Rn) (pre : List Pl) (W : World) : Prop :=
  (Lib.IsBuilderF 63 5 b b (Lib.byteCells (outB s (rs.take pre.length)).data.toList) W ∧ W.heap[H]? = some (.cells #[.string s] 9 (0, 0))) ∧ Below w.heap.size w W
theorem ai_own (w : World) (H b : Nat) (s : ByteArray) (rs : List Rn) (B : Nat) (hB : w.heap.size ≤ B) : OwnT 69 B (AI w H b s rs) :=
  OwnT.and (ownT_of fun pre X Y h hk => ⟨builder_kept h.1 fun k c t fz ht hx => hk k c t fz (by rcases ht with rfl | rfl <;> decide) hx, hk _ _ _ _ (by decide) h.2⟩) (ownT_below (Nat.le_refl _) hB)

/-- What a builder's writer keeps. -/
theorem wrote_keeps {b n₀ N₀ B : Nat} {p v : Value} {W W6 : World} (hbk : W.heap[b]? = some (.cells #[p, v] 63 (0, 0))) (hb : Below b W W6) (ho : Lib.OthersKept 5 (some b) W W6) (hn : n₀ ≤ b) : KeepsFrom B W W6 ∧ KeepP n₀ N₀ W W6 := by
  have key : ∀ k (o : Obj), W.heap[k]? = some o → (∀ c, o ≠ .cells c 63 (0, 0)) → (∀ c fz, o ≠ .cells c 5 fz) → W6.heap[k]? = some o := fun k o hk h1 h2 =>
    ho k o hk (fun e => by cases e; rw [hbk] at hk; cases hk; exact h1 _ rfl) h2
  refine ⟨⟨hb.size, fun k o _ hk hc => key k o hk (fun c e => by subst e; cases hc) (fun c fz e => by subst e; cases hc)⟩, hb.mono hn, fun k cs hk => key k _ hk (fun c e => by cases e) (fun c fz e => by cases e), fun k cs _ hk => key k _ hk (fun c e => by cases e) (fun c fz e => by cases e)⟩
theorem builder_block {b : Nat} {bs : List Value} {W : World} (h : Lib.IsBuilderF 63 5 b b bs W) : ∃ p v, W.heap[b]? = some (.cells #[p, v] 63 (0, 0)) := by
  rcases h with h | h
  · obtain ⟨_, v, hb, _⟩ := h; exact ⟨_, v, hb⟩
  · obtain ⟨_, v, hb, _⟩ := h; exact ⟨_, v, hb⟩

set_option maxRecDepth 100000 in
set_option maxHeartbeats 8000000 in
theorem apply_any (a : Option Addr) (cap : Nat) (rs : List Rn) (s : ByteArray) (w : World) (hS : CameR w.heap.size w a rs) (hl : rs.length ≤ 1000000) :
    Calls Try.prog 18 #[.slice a rs.length cap, .string s] w fun e W' => e = .returned (applyV rs s) ∧ Below w.heap.size w W' := by
  have h1 : 1 ≤ 3 := by omega
  have hro : Fence.wide.round = none := rfl
  have h70 : Fence.wide.fn 18 := trivial
  have h108 : Fence.wide.fn 29 := trivial
  have h55 : Fence.wide.fn 31 := trivial
  have h109 : Fence.wide.fn 30 := trivial
  have h110 : Fence.wide.fn 32 := trivial
  have h111 : Fence.wide.fn 33 := trivial
  have h112 : Fence.wide.fn 34 := trivial
  have h137 : Fence.wide.fn 44 := trivial
  refine (callsIn_wide (n := 3)).1 ?_
  refine callsIn_of_wp_marks Try.func18 rfl h70 ?_ hro
  simp only [Try.ntmps18, List.size_toArray, List.length_cons, List.length_nil, Nat.reduceAdd, Nat.reduceSub, Array.replicate_succ, Array.replicate_zero, List.push_toArray, List.append_toArray, List.nil_append, List.cons_append]
  have hb0 : Below w.heap.size w (w.alloc (.cells #[.string s] 9)) := (Below.refl _ w).alloc (Nat.le_refl _) _
  have hfit := fits_any a cap rs (s.size : Int) (w.alloc (.cells #[.string s] 9)) (came_up hS hb0) hl
  have hbox := World.alloc_heap_new w (.cells #[.string s] 9)
  have HS := hide hS
  have HB0 := hide hb0
  have HBOX := hide hbox
  clear hS hb0 hbox
  by_cases hf : fitsR rs (s.size : Int) = true
  · rw [hf] at hfit
    obtain ⟨f1, f2, f3, f4, f5, f6⟩ := fits_facts hf
    have HA : Hid (applyV rs s = .tuple #[.string (outB s rs), .int .i64 0]) := hide (by rw [applyV, if_pos hf])
    have hout : ∀ W, CameR W.heap.size W a rs → Calls Try.prog 31 #[.slice a rs.length cap] W fun e W' => e = .returned (.int .i64 ((tOut (expand rs) : Nat) : Int)) ∧ Below W.heap.size W W' := fun W h => by rw [← f6]; exact out_any a cap rs W h hl
    have HF := hide (And.intro f1 (And.intro f2 (And.intro f3 f4)))
    clear f1 f2 f4 f5 f6 hf
    gi_wp2_with (gi_at_call 29; refine (callsIn_wide.2 hfit).mono ?_; rintro e W1 ⟨rfl, hb⟩; have HB1 := hide hb; clear hb)
    have hbx1 : W1.heap[w.heap.size]? = some (.cells #[.string s] 9 (0, 0)) := (HB1.out.block _ (lt_of_heap HBOX.out)).trans HBOX.out
    have hw1 : Below w.heap.size w W1 := HB0.out.trans (HB1.out.mono HB0.out.size)
    have hba : Below W1.heap.size W1 (W1.alloc (.cells #[.pointer none, .slice none 0 0] 63)) := (Below.refl _ _).alloc (Nat.le_refl _) _
    have hnb := World.alloc_heap_new W1 (.cells #[.pointer none, .slice none 0 0] 63)
    have hc1 : CameR (W1.alloc (.cells #[.pointer none, .slice none 0 0] 63)).heap.size (W1.alloc (.cells #[.pointer none, .slice none 0 0] 63)) a rs := came_up (came_up HS.out hw1) hba
    have HC1 := hide hc1
    have HNB := hide hnb
    have HBX1 := hide hbx1
    have HW1 := hide hw1
    have HBA := hide hba
    clear hc1 hnb hbx1 hw1 hba
    gi_wp2_with (gi_at_call 31; refine (callsIn_wide.2 (hout _ HC1.out)).mono ?_; rintro e W2 ⟨rfl, hb⟩; have HB2 := hide hb; clear hb)
    have hnb2 : W2.heap[W1.heap.size]? = some (.cells #[.pointer none, .slice none 0 0] 63 (0, 0)) := (HB2.out.block _ (lt_of_heap HNB.out)).trans HNB.out
    have hsz2 : W1.heap.size ≤ W2.heap.size := Nat.le_of_lt (lt_of_heap hnb2)
    have hgrow := Try.Builder_Grow_fresh W1.heap.size W1.heap.size (tOut (expand rs)) W2 (Nat.le_refl _) hnb2 hsz2 (by omega)
    have HW2 := hide (HW1.out.trans ((HBA.out.mono (Nat.le_refl _)).trans (HB2.out.mono HBA.out.size) |>.mono HW1.out.size))
    have HBX2 := hide ((HB2.out.block _ (lt_of_heap ((HBA.out.block _ (lt_of_heap HBX1.out)).trans HBX1.out))).trans ((HBA.out.block _ (lt_of_heap HBX1.out)).trans HBX1.out))
    have HS2 := hide hsz2
    clear hnb2 hsz2
    gi_wp2_with (gi_at_call 30; refine (callsIn_wide.2 hgrow).mono ?_; rintro e W3 ⟨rfl, hb1, hb2⟩; have HB3 := hide hb1; have HB4 := hide hb2; clear hb1 hb2)
    have hw3 : Below w.heap.size w W3 := HW2.out.trans (HB4.out.mono HW1.out.size)
    have hlt : w.heap.size < W1.heap.size := lt_of_heap HBX1.out
    have HS3 := hide hlt
    have hbx3 : W3.heap[w.heap.size]? = some (.cells #[.string s] 9 (0, 0)) := (HB4.out.block _ hlt).trans HBX2.out
    have hbu3 : Lib.IsBuilderF 63 5 W1.heap.size W1.heap.size (Lib.byteCells (outB s []).data.toList) W3 := .inr (Lib.BuilderAtF.of HB3.out)
    gi_wp2_with (gi_at_call 32; refine (steps_any (3 - 1) _ _ _ _).mono ?_; rintro e w' ⟨rfl, rfl⟩)
    obtain ⟨W4, hW4⟩ : ∃ W4, W4 = W3.alloc (.cells #[.slice a rs.length cap] 22) := ⟨_, rfl⟩
    have hal : Below W3.heap.size W3 W4 := by rw [hW4]; exact (Below.refl _ _).alloc (Nat.le_refl _) _
    have hbn : Boxed W4 W3.heap.size 22 (.slice a rs.length cap) := by rw [hW4]; exact World.alloc_heap_new _ _
    have hw4 : Below w.heap.size w W4 := hw3.trans (hal.mono hw3.size)
    have hbx4 : W4.heap[w.heap.size]? = some (.cells #[.string s] 9 (0, 0)) := (hal.block _ (lt_of_heap hbx3)).trans hbx3
    have hbu4 : Lib.IsBuilderF 63 5 W1.heap.size W1.heap.size (Lib.byteCells (outB s []).data.toList) W4 := builder_kept hbu3 fun k c t fz _ hx => (hal.block _ (lt_of_heap hx)).trans hx
    have hkinds := good_kinds HF.out.1
    obtain ⟨e1, e2⟩ := sums_tok hkinds
    have hsz4 : W3.heap.size < W4.heap.size := lt_of_heap hbn
    have hb34 : W1.heap.size ≤ W4.heap.size := Nat.le_of_lt (Nat.lt_of_lt_of_le (by have := HB3.out.1; obtain ⟨v, hv, _⟩ := HB3.out.2; exact lt_of_heap hv) (Nat.le_of_lt hsz4))
    rw [← hW4]
    have HW4 := hide hw4
    have HBX4 := hide hbx4
    have HBU4 := hide hbu4
    have hstops := steps_stops (3 - 1) (by omega) W3.heap.size w.heap.size W4.heap.size a cap rs W4 hkinds (by rw [e1]; have := HF.out.2.2.2; omega) (by rw [e2]; have := HF.out.2.2.1; omega) hsz4 hw4.size (Nat.le_refl _) hbn.cell (HS.out.below hw4) hl
    have HIN : Hid (sI rs = (s.size : Int)) := hide (by rw [e1]; exact HF.out.2.1)
    have HOU : Hid (tOut (expand rs) ≤ 16777216) := hide HF.out.2.2.1
    have HKI := hide hkinds
    clear hW4 hal hbn hw4 hbx4 hbu4 hkinds e1 e2 hbx3 hbu3 hw3
    refine rangeFunc_box h1 (gf := 44) (lb := #[.pointer (some ⟨W3.heap.size, 0, none⟩)]) rfl (enters_of Try.func44 (by kernel_rfl) rfl) hstops KeepP.trans (KeepP.put HW4.out.size) (Below.refl _ _) (fun _ => rfl)
      (AI w w.heap.size W1.heap.size s rs) (fun _ _ _ => False) (ai_own w _ _ s rs _ HW4.out.size) (fun c => ownT_pure _ _) ⟨⟨HBU4.out, HBX4.out⟩, HW4.out⟩
      (AAx a rs.length cap s w.heap.size W1.heap.size W3.heap.size (tOut (expand rs) : Int)) (fun x a' => Own.from (aax_own a rs.length cap s _ _ _ _ x a') _) ?assign ?body ?done ?stop
    case assign =>
      rintro l pre ⟨i, o, xk, xa, xd⟩ W K hI hK
      have hal : Below W.heap.size W ((W.alloc (.cells #[.int .i64 i, .int .i64 o] 69)).alloc (.cells #[.int .i64 xk, .string xa, .int .i64 xd] 51)) := ((Below.refl _ _).alloc (Nat.le_refl _) _).alloc (by simp) _
      have hI2 := (ai_own w w.heap.size W1.heap.size s rs W.heap.size hI.2.size).minds (Nat.le_refl _) _ _ _ hI (.inl hal)
      have HZ := hide (hK (AA a rs.length cap s w.heap.size W1.heap.size W3.heap.size (tOut (expand rs) : Int) (i, o, ⟨xk, xa, xd⟩) W.heap.size (W.heap.size + 1)) _ (KeepsFrom.of_below hal) (KeepP.of_below hI.2.size hal) hI2
        ⟨_, _, rfl, (Below.heap_alloc _ _ _ (by simp)).trans (World.alloc_heap_new W _), by have := World.alloc_heap_new (W.alloc (.cells #[.int .i64 i, .int .i64 o] 69)) (.cells #[.int .i64 xk, .string xa, .int .i64 xd] 51); rwa [World.size_alloc] at this⟩)
      clear hK hal hI2 hI
      unfold encP
      dsimp only
      gi_wp2
      exact HZ.out
    case body =>
      rintro l pre x a' W hl0 hI ⟨q1, q2, rfl, hq1, hq2⟩ hpre
      obtain ⟨hk, hx, _⟩ := plc_at hpre
      have hkx : kind (rs.getD pre.length rn0) ≠ 0 := HKI.out _ (by simp [List.getD, hk])
      have hsn : rs.take (pre.length + 1) = rs.take pre.length ++ [rs.getD pre.length rn0] := by rw [List.take_succ_eq_append_getElem hk]; simp [List.getD, hk]
      have st := sums_take HKI.out (pre.length + 1)
      have tk := sums_tok (rs := rs.take pre.length) fun y hy => HKI.out y (List.mem_of_mem_take hy)
      rw [hsn, sI_snoc, sO_snoc, tk.1, tk.2] at st
      have hob := outB_snoc s (rs.take pre.length) _ hkx
      rw [← hsn] at hob
      rw [tk.1, tk.2] at hx
      subst hx
      obtain ⟨kf1, kf2, _, _⟩ := kind_facts hkx
      have hsz := outB_size (s := s) (rs := rs.take pre.length) (by have h1 := st.1.2; rw [HIN.out] at h1; omega)
      generalize hxx : rs.getD pre.length rn0 = x at *
      obtain ⟨xk, xa, xd⟩ := x
      replace kf1 : 0 ≤ xk := kf1
      replace kf2 : 0 ≤ xd := kf2
      obtain ⟨kN, rfl⟩ := Int.eq_ofNat_of_zero_le kf1
      obtain ⟨iN, hiN⟩ : ∃ iN, iN = tIn (expand (rs.take pre.length)) := ⟨_, rfl⟩
      obtain ⟨oN, hoN⟩ : ∃ oN, oN = tOut (expand (rs.take pre.length)) := ⟨_, rfl⟩
      rw [← hiN] at hob st hq1 hpre ⊢
      rw [← hoN] at st hq1 hpre hsz ⊢
      replace hob : outB s (rs.take (pre.length + 1)) = outB s (rs.take pre.length) ++ s.extract iN (iN + kN) ++ xa := by rw [hob]; rfl
      have hin := HIN.out
      have hsb : sI rs ≤ 16777216 := by rw [hin, ← HF.out.2.1]; have := HF.out.2.2.2; omega
      have hob2 : sO rs ≤ 16777216 := by rw [(sums_tok HKI.out).2]; have := HOU.out; omega
      replace st : (_ ∧ (iN : Int) + ((kN : Int) + xd) ≤ sI rs) ∧ _ ∧ (oN : Int) + ((kN : Int) + (xa.size : Int)) ≤ sO rs := st
      obtain ⟨⟨_, st1⟩, _, st2⟩ := st
      have hle : iN + kN ≤ s.size := by omega
      have HI := hide hI
      have hlen : (outB s (rs.take pre.length)).size = oN := hsz
      have hcells : (Lib.byteCells (outB s (rs.take pre.length)).data.toList).length = oN := by rw [Lib.byteCells_length, Array.length_toList]; exact hlen
      obtain ⟨pb, vb, hbk⟩ := builder_block hI.1.1
      have hbW : W1.heap.size ≤ W.heap.size := Nat.le_of_lt (lt_of_heap hbk)
      have hlt : w.heap.size < W1.heap.size := HS3.out
      have hext : (s.extract iN (iN + kN)).size = kN := by rw [ByteArray.size_extract]; omega
      have hws1 := writeString W1.heap.size W1.heap.size _ (s.extract iN (iN + kN)) W hI.1.1 (by rw [hcells, hext]; omega) hbW
      have hws2 : ∀ W5, Lib.BuilderAtF 63 5 W1.heap.size W1.heap.size (.pointer (some ⟨W1.heap.size, 0, none⟩)) (Lib.byteCells (outB s (rs.take pre.length)).data.toList ++ Lib.strCells (s.extract iN (iN + kN))) W5 → W1.heap.size ≤ W5.heap.size →
          Calls Try.prog 33 #[.pointer (some ⟨W1.heap.size, 0, none⟩), .string xa] W5 fun e w' => e = .returned (.tuple #[.int .i64 xa.size, .nilIface]) ∧ (Lib.BuilderAtF 63 5 W1.heap.size W1.heap.size (.pointer (some ⟨W1.heap.size, 0, none⟩)) (Lib.byteCells (outB s (rs.take (pre.length + 1))).data.toList) w' ∧ Below W1.heap.size W5 w' ∧ Lib.OthersKept 5 (some W1.heap.size) W5 w') := fun W5 h5 h5s => by
        have := writeString W1.heap.size W1.heap.size _ xa W5 (.inr h5) (by rw [List.length_append, hcells, Lib.strCells_length, hext]; omega) h5s
        refine this.mono fun e w' ⟨he, h6, h7, h8⟩ => ⟨he, ?_, h7, h8⟩
        rw [hob]
        simp only [ByteArray.data_append, Array.toList_append, Lib.byteCells_append]
        simpa only [Lib.strCells_eq] using h6
      have c1 : W.cell? ⟨w.heap.size, 0, none⟩ = some (.string s) := by rw [Joins.cell_of_block hI.1.2]; rfl
      obtain ⟨p0, p1⟩ := cellsp hq1
      obtain ⟨r0, r1, r2⟩ := cellsq hq2
      have w1 : IntKind.i64.wrap ((iN : Int) + (kN : Int)) = ((iN + kN : Nat) : Int) := by rw [IntKind.wrap_i64]; omega
      have HOK : ∀ W5, Lib.OthersKept 5 (some W1.heap.size) W W5 → W5.heap[q2]? = some (.cells #[.int .i64 (kN : Int), .string xa, .int .i64 xd] 51 (0, 0)) := fun W5 h5 => h5 q2 _ hq2 (fun e => by cases e; rw [hbk] at hq2; cases hq2) (fun c fz e => by cases e)
      have HOKK := hide HOK
      have HWS2 := hide hws2
      have HBK := hide hbk
      have HPL := hide hk
      have HLT := hide hlt
      have hle2 : ((iN + kN : Nat) : Int) ≤ (s.size : Int) := by omega
      have hle3 : (iN : Int) ≤ ((iN + kN : Nat) : Int) := by omega
      clear hI hq1 hq2 hpre hkx hsn tk hob hsz hxx hiN hoN hlen hcells hws2 HOK hbk hk hlt
      unfold AA
      dsimp only
      have HSG := hide st2
      clear st2
      gi_wp2_with (first
        | (gi_at_call 33; refine (CallsIn.inRound l (callsIn_wide.2 hws1)).mono ?_; rintro e W5 ⟨rfl, h5, b5, k5⟩; obtain ⟨y0, y1, y2⟩ := cellsq (HOKK.out W5 k5); have hws3 := HWS2.out W5 h5 (Nat.le_trans hbW b5.size); have H5 := hide (And.intro b5 k5); clear hws1 h5 b5 k5)
        | (gi_at_call 33; refine (CallsIn.inRound l (callsIn_wide.2 hws3)).mono ?_; rintro e W6 ⟨rfl, h6, b6, k6⟩; have H6 := hide (And.intro h6 (And.intro b6 k6)); clear h6 b6 k6))
      have hb6 := H5.out.1.trans H6.out.2.1
      have hk6 := H5.out.2.trans H6.out.2.2
      obtain ⟨z1, z2⟩ := wrote_keeps (n₀ := w.heap.size) (N₀ := W4.heap.size) (B := W4.heap.size) HBK.out hb6 hk6 (Nat.le_of_lt HLT.out)
      refine ⟨z1, z2, ⟨?_, (hb6.block _ HLT.out).trans HI.out.1.2⟩, HI.out.2.trans z2.1⟩
      rw [List.length_append]
      exact .inr H6.out.1
    case done =>
      rintro D ys W hD rfl hI hK
      obtain ⟨⟨hb, hx⟩, hB⟩ := hI
      rw [length_plc, List.take_length] at hb
      obtain ⟨pb, vb, hbk⟩ := builder_block hb
      have hst := Try.Builder_String_any_k W1.heap.size W1.heap.size _ W hb (Nat.le_of_lt (lt_of_heap hbk))
      have hou : (⟨(outB s rs).data.toList.toArray⟩ : ByteArray) = outB s rs := by simp
      rw [hou] at hst
      have HK := hide hK
      have HBW := hide hB
      have HBK := hide hbk
      clear hb hx hB hbk hK hou
      gi_wp2_with (gi_at_call 34; refine (callsIn_wide.2 hst).mono ?_; rintro e W5 ⟨rfl, _, b5, k5⟩; have H5 := hide (And.intro b5 k5); clear b5 k5)
      have hK5 := H5.out.2 D _ HK.out (fun e => by cases e; have := HBK.out; rw [HK.out] at this; cases this) (fun c fz e => by cases e)
      refine ⟨by simp, .inl ⟨_, _, rfl, run_takeDeferred hK5, ?_⟩⟩
      refine ⟨applyV rs s, ?_, rfl, (HBW.out.trans (H5.out.1.mono (Nat.le_of_lt HS3.out))).trans (belowK_b (w := w) (Nat.le_refl _) W5 D _ _ (Nat.le_trans HW4.out.size hD) hK5 rfl rfl)⟩
      rw [HA.out]
      simp [results, Try.f18, go_sem]
    case stop =>
      rintro D cc pre W hD hpre hno hK
      exact hno.elim
  · have hf' : fitsR rs (s.size : Int) = false := by simpa using hf
    rw [hf'] at hfit
    have HA : Hid (applyV rs s = .tuple #[.string ⟨#[]⟩, .int .i64 60]) := hide (by rw [applyV, if_neg hf])
    clear hf hf'
    gi_wp2_with (gi_at_call 29; refine (callsIn_wide.2 hfit).mono ?_; rintro e W1 ⟨rfl, hb⟩; have HB1 := hide hb; clear hb)
    refine ⟨applyV rs s, ?_, rfl, HB0.out.trans (HB1.out.mono HB0.out.size)⟩
    rw [HA.out]
    simp [results, Try.f18, go_sem]

end Go.Proofs.Ytecmiphmefbpnaa.E

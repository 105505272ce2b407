/- The law's same and do: a step of a buffer and of the document's list. -/
import Derived.Test.YtpmijaplkbmbiaaInsP
import Derived.Test.YtpmijaplkbmbiaaGen
import Derived.Test.YtpmijaplkbmbiaaLight
namespace Go.Proofs.Ytpmijaplkbmbiaa
open Go.RowKit Go.By Go.Shelf
set_option linter.unusedVariables false

set_option maxRecDepth 20000 in
set_option maxHeartbeats 2000000 in
theorem same_buf {W : World} {B g : Nat} {sv v : Value} {lent : Bool} {ps : List ByteArray} (h : BufIs W B g sv lent ps) (hv : Txs W v ps) (hl : ps.length ≤ 900000) :
    Calls Try.prog 27 #[.pointer (some ⟨g, 0, none⟩), v] W fun e W' => e = .returned (.bool true) ∧ Below W.heap.size W W' := by
  have hsm := h.small
  have htx := ref_text v ps W hv (by omega)
  have hbt := text_buf h (by omega)
  have HS := hide (size_str ps)
  have H := hide h
  obtain ⟨a, cap, rfl⟩ : ∃ a cap, v = .slice a ps.length cap := by obtain ⟨a, cap, e, _⟩ := hv; exact ⟨a, cap, e⟩
  have e1 : ((tot ps : Nat) : Int) = ((str ps).size : Int) := by rw [HS.out]
  have HE := hide e1
  clear h hv e1
  go_enter Try.func27, Try.ntmps27
  go_wp2_with (first
    | (go_at_call 87; refine htx.mono ?_; rintro e w' ⟨rfl, rfl⟩)
    | (go_at_call 31; refine hbt.mono ?_; rintro e w1 ⟨rfl, hb⟩; have HB := hide hb; clear hb)
    | (go_at_call 35; refine (len_buf (H.out.below HB.out)).mono ?_; rintro e w' ⟨rfl, rfl⟩; rw [HE.out])
    | (go_at_call 36; refine (pieces_buf (H.out.below HB.out)).mono ?_; rintro e w' ⟨rfl, rfl⟩))
  go_ret
  exact ⟨rfl, HB.out⟩

/-- A list's row is none of the buffer's own blocks. -/
def Dis (v : Value) (g : Nat) (sv : Value) (lent : Bool) : Prop := ∀ k, v.ownBlock = some k → k ≠ g ∧ (lent = false → some k ≠ sv.ownBlock)

/-- Where the row is behind a step. -/
def Fr (W : World) (sv sv' : Value) (lent lent' : Bool) : Prop :=
  (sv' = sv ∧ lent' = lent) ∨ (lent' = false ∧ ((lent = false ∧ sv'.ownBlock = sv.ownBlock) ∨ sv'.ownBlock = none ∨ ∃ k, sv'.ownBlock = some k ∧ W.heap.size ≤ k))

/-- What a step may turn. -/
abbrev Trn (g : Nat) (sv : Value) (lent : Bool) : Nat → Prop := fun k => k = g ∨ (lent = false ∧ some k = sv.ownBlock)

theorem gstep_only {B g : Nat} {sv : Value} {lent : Bool} {ps' : List ByteArray} {W W' : World} (h : GStep B g sv lent ps' W W') : ∃ sv' lent', BufIs W' B g sv' lent' ps' ∧ Only (Trn g sv lent) W W' ∧ Fr W sv sv' lent lent' := by
  obtain ⟨sv', lent', h1, (⟨rfl, rfl, rfl⟩ | ⟨rfl, hc⟩)⟩ := h
  · exact ⟨sv', lent', h1, Only.refl _ _, .inl ⟨rfl, rfl⟩⟩
  · exact ⟨sv', false, h1, hc.1, .inr ⟨rfl, hc.2⟩⟩

theorem Fr.later {W W1 : World} {sv sv' : Value} {lent lent' : Bool} (h : Fr W1 sv sv' lent lent') (hs : W.heap.size ≤ W1.heap.size) : Fr W sv sv' lent lent' := by
  rcases h with h | ⟨h1, h2 | h2 | ⟨k, h2, h3⟩⟩
  · exact .inl h
  · exact .inr ⟨h1, .inl h2⟩
  · exact .inr ⟨h1, .inr (.inl h2)⟩
  · exact .inr ⟨h1, .inr (.inr ⟨k, h2, by omega⟩)⟩

/-- Both at one text. -/
structure Two (B g : Nat) (sv : Value) (lent : Bool) (v : Value) (ps : List ByteArray) (W : World) : Prop where
  buf : BufIs W B g sv lent ps
  txs : Txs W v ps
  dis : Dis v g sv lent

theorem Two.below {B g : Nat} {sv v : Value} {lent : Bool} {ps : List ByteArray} {W W' : World} (h : Two B g sv lent v ps W) (hb : Below W.heap.size W W') : Two B g sv lent v ps W' :=
  ⟨h.buf.below hb, h.txs.below hb, h.dis⟩

/-- Behind the buffer's step the list lies as it lay. -/
theorem Two.kept {B g : Nat} {sv v : Value} {lent : Bool} {ps : List ByteArray} {W W' : World} (h : Two B g sv lent v ps W) (ho : Only (Trn g sv lent) W W') : Txs W' v ps :=
  h.txs.same ho.size fun k hk => ho.block k (h.txs.lt k hk) fun hS => by
    have hd := h.dis k hk
    rcases hS with e | ⟨e1, e2⟩
    · exact hd.1 e
    · exact hd.2 e1 e2

/-- Both steps, one behind the other. -/
theorem Two.step {B g : Nat} {sv sv' v v' : Value} {lent lent' : Bool} {ps ps' : List ByteArray} {W W1 W2 : World} (h : Two B g sv lent v ps W) (hb : BufIs W1 B g sv' lent' ps') (ho : Only (Trn g sv lent) W W1) (hf : Fr W sv sv' lent lent')
    (hr : RefTo W1 W2 v v' ps ps') : Two B g sv' lent' v' ps' W2 ∧ Only (Trn g sv lent) W W2 := by
  rcases hr with ⟨rfl, rfl, rfl⟩ | ⟨hr, hbl⟩
  · refine ⟨⟨hb, h.kept ho, fun k hk => ⟨(h.dis k hk).1, fun e => ?_⟩⟩, ho⟩
    rcases hf with ⟨rfl, rfl⟩ | ⟨_, h2 | h2 | ⟨j, h2, h3⟩⟩
    · exact (h.dis k hk).2 e
    · rw [h2.2]; exact (h.dis k hk).2 h2.1
    · rw [h2]; intro e; cases e
    · rw [h2]; intro e; cases e; have := h.txs.lt k hk; omega
  · refine ⟨⟨hb.below hbl, txs_of_row hr, fun k hk => ?_⟩, ho.trans (hbl.only _)⟩
    have h1 := (ownBlock_lt hr hk).1
    refine ⟨fun e => ?_, fun _ e => ?_⟩
    · have := lt_of_heap hb.blk; omega
    · have := (ownBlock_lt hb.row e.symm).2; omega

/-- What do answers. -/
def DoOut (B g : Nat) (sv : Value) (lent : Bool) (ps : List ByteArray) (W : World) (e : Ending) (W' : World) : Prop :=
  ∃ v' ps' sv' lent', e = .returned (.tuple #[v', .bool true]) ∧ Two B g sv' lent' v' ps' W' ∧ Only (Trn g sv lent) W W' ∧ Fr W sv sv' lent lent' ∧ ps'.length ≤ ps.length + 3

set_option maxRecDepth 20000 in
set_option maxHeartbeats 4000000 in
theorem do_any {W : World} {B g : Nat} {sv v : Value} {lent : Bool} {ps : List ByteArray} (s : Stp) (hB : B ≤ W.heap.size) (h : Two B g sv lent v ps W) (hl : ps.length ≤ 800000) (hat : IntKind.i64.wrap s.at_ = s.at_) (hs : s.s.size ≤ 500) :
    Calls Try.prog 28 #[.pointer (some ⟨g, 0, none⟩), v, .agg #[.bool s.del, .int .i64 s.at_, .int .i64 s.many, .string s.s]] W (DoOut B g sv lent ps W) := by
  obtain ⟨dl, at_, mn, s⟩ := s
  replace hat : IntKind.i64.wrap at_ = at_ := hat
  replace hs : s.size ≤ 500 := hs
  show Calls Try.prog 28 #[.pointer (some ⟨g, 0, none⟩), v, .agg #[.bool dl, .int .i64 at_, .int .i64 mn, .string s]] W (DoOut B g sv lent ps W)
  obtain ⟨a, cap, rfl⟩ : ∃ a cap, v = .slice a ps.length cap := by obtain ⟨a, cap, e, _⟩ := h.txs; exact ⟨a, cap, e⟩
  have H := hide h
  have HAT := hide hat
  clear h hat
  have hba : Below W.heap.size W (W.alloc (.cells #[.bool dl, .int .i64 at_, .int .i64 mn, .string s] 34)) := (Below.refl _ W).alloc (Nat.le_refl _) _
  have H1 := hide (H.out.below hba)
  have hB1 : B ≤ (W.alloc (.cells #[.bool dl, .int .i64 at_, .int .i64 mn, .string s] 34)).heap.size := by simp; omega
  have HBA := hide hba
  clear hba
  cases dl with
  | true =>
    have hd := delete_gen (W := W.alloc (.cells #[.bool true, .int .i64 at_, .int .i64 mn, .string s] 34)) at_ mn hB1 H1.out.buf (by omega) HAT.out
    go_enter Try.func28, Try.ntmps28
    go_wp2_with fail
    refine hd.mono ?_
    rintro e W2 ⟨r, rfl, hd2⟩
    have hex : ∃ ps' sv' lent', BufIs W2 B g sv' lent' ps' ∧ Only (Trn g sv lent) (W.alloc (.cells #[.bool true, .int .i64 at_, .int .i64 mn, .string s] 34)) W2 ∧ Fr (W.alloc (.cells #[.bool true, .int .i64 at_, .int .i64 mn, .string s] 34)) sv sv' lent lent' ∧ ps'.length ≤ ps.length + 3 ∧ ((0 ≤ at_ ∧ 0 ≤ mn ∧ at_ + mn ≤ tot ps ∧ r = 0 ∧ ps' = chgAt ps at_.toNat mn.toNat ⟨#[]⟩) ∨ (¬ (0 ≤ at_ ∧ 0 ≤ mn ∧ at_ + mn ≤ tot ps) ∧ r = 30 ∧ ps' = ps)) := by
      rcases hd2 with ⟨q1, q2, q3, q4, q5⟩ | ⟨q1, q2, rfl⟩
      · obtain ⟨sv', lent', g1, g2, g3⟩ := gstep_only q5
        exact ⟨_, sv', lent', g1, g2, g3, len_chgAt _ (by omega), .inl ⟨q1, q2, q3, q4, rfl⟩⟩
      · exact ⟨ps, sv, lent, H1.out.buf, Only.refl _ _, .inl ⟨rfl, rfl⟩, by omega, .inr ⟨q1, q2, rfl⟩⟩
    obtain ⟨ps', sv', lent', g1, g2, g3, g4, g5⟩ := hex
    have HG1 := hide g1
    have HG2 := hide g2
    have HG3 := hide g3
    have HG5 := hide g5
    have hrd := ref_delete _ ps at_ mn W2 (H1.out.kept g2) (by omega) H1.out.buf.full H1.out.buf.small
    have hcell : ∀ i x, (#[Value.bool true, .int .i64 at_, .int .i64 mn, .string s])[i]? = some x → W2.cell? ⟨W.heap.size, i, none⟩ = some x := fun i x hx => by
      have hb2 := g2.block W.heap.size (by simp) (fun hS => by
        rcases hS with e | ⟨_, e⟩
        · have := lt_of_heap H.out.buf.blk; omega
        · have := (ownBlock_lt H.out.buf.row e.symm).2; omega)
      rw [World.cell?_of_block (a := ⟨W.heap.size, i, none⟩) hb2, Joins.cell_of_block (World.alloc_heap_new W _)]
      exact hx
    have d1 := hcell 1 _ rfl
    have d2 := hcell 2 _ rfl
    have d3 := hcell 3 _ rfl
    clear hd hd2 g1 g2 g3 g5 hcell
    go_wp2_with fail
    refine hrd.mono ?_
    rintro e W3 ⟨r', v', l', rfl, hrt, hr3⟩
    obtain ⟨rfl, rfl⟩ : r' = r ∧ l' = ps' := by
      rcases HG5.out with ⟨q1, q2, q3, q4, q5⟩ | ⟨q1, q2, q3⟩ <;> rcases hr3 with ⟨p1, p2, p3, p4, p5⟩ | ⟨p1, p2, p3⟩
      · exact ⟨p4.trans q4.symm, p5.trans q5.symm⟩
      · exact absurd ⟨q1, q2, q3⟩ p1
      · exact absurd ⟨p1, p2, p3⟩ q1
      · exact ⟨p2.trans q2.symm, p3.trans q3.symm⟩
    obtain ⟨t1, t2⟩ := H1.out.step HG1.out HG2.out HG3.out hrt
    have hsm := same_buf t1.buf t1.txs (by omega)
    have HT1 := hide t1
    have HT2 := hide ((HBA.out.only _).trans t2)
    have HF3 := hide (HG3.out.later (W := W) (by simp))
    clear hrd hr3 hrt t1 t2 HG1 HG2 HG5 HG3
    go_wp2_with (go_at_call 27; refine hsm.mono ?_; rintro e W4 ⟨rfl, hb4⟩; have HB4 := hide hb4; clear hb4 hsm)
    go_ret2
    exact ⟨v', _, sv', lent', rfl, HT1.out.below HB4.out, HT2.out.trans (HB4.out.only _), HF3.out, g4⟩
  | false =>
    have hd := insert_gen (W := W.alloc (.cells #[.bool false, .int .i64 at_, .int .i64 mn, .string s] 34)) s at_ hB1 H1.out.buf (by omega) (by omega)
    go_enter Try.func28, Try.ntmps28
    go_wp2_with fail
    refine hd.mono ?_
    rintro e W2 ⟨r, rfl, hd2⟩
    have hex : ∃ ps' sv' lent', BufIs W2 B g sv' lent' ps' ∧ Only (Trn g sv lent) (W.alloc (.cells #[.bool false, .int .i64 at_, .int .i64 mn, .string s] 34)) W2 ∧ Fr (W.alloc (.cells #[.bool false, .int .i64 at_, .int .i64 mn, .string s] 34)) sv sv' lent lent' ∧ ps'.length ≤ ps.length + 3 ∧ ((0 ≤ at_ ∧ at_ ≤ tot ps ∧ tot ps + s.size ≤ 16777216 ∧ r = 0 ∧ ps' = chgAt ps at_.toNat 0 s) ∨ (¬ (0 ≤ at_ ∧ at_ ≤ tot ps) ∧ r = 30 ∧ ps' = ps) ∨ (0 ≤ at_ ∧ at_ ≤ tot ps ∧ ¬ (tot ps + s.size ≤ 16777216) ∧ r = 31 ∧ ps' = ps)) := by
      rcases hd2 with ⟨q1, q2, q3, q4, q5⟩ | ⟨q1, q2, rfl⟩ | ⟨q1, q2, q3, q4, rfl⟩
      · obtain ⟨sv', lent', g1, g2, g3⟩ := gstep_only q5
        exact ⟨_, sv', lent', g1, g2, g3, len_chgAt _ (by omega), .inl ⟨q1, q2, q3, q4, rfl⟩⟩
      · exact ⟨ps, sv, lent, H1.out.buf, Only.refl _ _, .inl ⟨rfl, rfl⟩, by omega, .inr (.inl ⟨q1, q2, rfl⟩)⟩
      · exact ⟨ps, sv, lent, H1.out.buf, Only.refl _ _, .inl ⟨rfl, rfl⟩, by omega, .inr (.inr ⟨q1, q2, q3, q4, rfl⟩)⟩
    obtain ⟨ps', sv', lent', g1, g2, g3, g4, g5⟩ := hex
    have HG1 := hide g1
    have HG2 := hide g2
    have HG3 := hide g3
    have HG5 := hide g5
    have hrd := ref_insert _ ps at_ s W2 (H1.out.kept g2) (by omega) H1.out.buf.full H1.out.buf.small (by omega)
    have hcell : ∀ i x, (#[Value.bool false, .int .i64 at_, .int .i64 mn, .string s])[i]? = some x → W2.cell? ⟨W.heap.size, i, none⟩ = some x := fun i x hx => by
      have hb2 := g2.block W.heap.size (by simp) (fun hS => by
        rcases hS with e | ⟨_, e⟩
        · have := lt_of_heap H.out.buf.blk; omega
        · have := (ownBlock_lt H.out.buf.row e.symm).2; omega)
      rw [World.cell?_of_block (a := ⟨W.heap.size, i, none⟩) hb2, Joins.cell_of_block (World.alloc_heap_new W _)]
      exact hx
    have d1 := hcell 1 _ rfl
    have d2 := hcell 2 _ rfl
    have d3 := hcell 3 _ rfl
    clear hd hd2 g1 g2 g3 g5 hcell
    go_wp2_with fail
    refine hrd.mono ?_
    rintro e W3 ⟨r', v', l', rfl, hrt, hr3⟩
    obtain ⟨rfl, rfl⟩ : r' = r ∧ l' = ps' := by
      rcases HG5.out with ⟨q1, q2, q3, q4, q5⟩ | ⟨q1, q2, q3⟩ | ⟨q1, q2, q3, q4, q5⟩ <;> rcases hr3 with ⟨p1, p2, p3, p4, p5⟩ | ⟨p1, p2, p3⟩ | ⟨p1, p2, p3, p4, p5⟩
      · exact ⟨p4.trans q4.symm, p5.trans q5.symm⟩
      · exact absurd ⟨q1, q2⟩ p1
      · exact absurd q3 p3
      · exact absurd ⟨p1, p2⟩ q1
      · exact ⟨p2.trans q2.symm, p3.trans q3.symm⟩
      · exact absurd ⟨p1, p2⟩ q1
      · exact absurd p3 q3
      · exact absurd ⟨q1, q2⟩ p1
      · exact ⟨p4.trans q4.symm, p5.trans q5.symm⟩
    obtain ⟨t1, t2⟩ := H1.out.step HG1.out HG2.out HG3.out hrt
    have hsm := same_buf t1.buf t1.txs (by omega)
    have HT1 := hide t1
    have HT2 := hide ((HBA.out.only _).trans t2)
    have HF3 := hide (HG3.out.later (W := W) (by simp))
    clear hrd hr3 hrt t1 t2 HG1 HG2 HG5 HG3
    go_wp2_with (go_at_call 27; refine hsm.mono ?_; rintro e W4 ⟨rfl, hb4⟩; have HB4 := hide hb4; clear hb4 hsm)
    go_ret2
    exact ⟨v', _, sv', lent', rfl, HT1.out.below HB4.out, HT2.out.trans (HB4.out.only _), HF3.out, g4⟩

end Go.Proofs.Ytpmijaplkbmbiaa

/- An edit of a buffer, done by its own ways to take bytes out and to put some in. -/
import Derived.Test.YtpmijaplkbmbiaaV6
import Derived.Test.YtpmijaplkbmbiaaU3
import Derived.Test.YtpmijaplkbmbiaaGen
namespace Go.Proofs.Ytpmijaplkbmbiaa.E
open Go.Proofs.Ytpmijaplkbmbiaa Go.RowKit Go.By Go.Shelf
set_option linter.unusedVariables false
set_option linter.unusedSimpArgs false
attribute [local go_sem] Oper.semAt_some

/-- A buffer's blocks are boxes of two types. -/
theorem bufis_kept {X Y : World} {B g : Nat} {sv : Value} {lent : Bool} {ps : List ByteArray} (h : BufIs X B g sv lent ps) (hk : ∀ (k : Nat) (c : Array Value) (t : TypeId) (fz : Nat × Nat), t = 51 ∨ t = 9 → X.heap[k]? = some (.cells c t fz) → Y.heap[k]? = some (.cells c t fz)) : BufIs Y B g sv lent ps := by
  refine ⟨h.hB, hk _ _ _ _ (.inl rfl) h.blk, ⟨h.row.1, h.row.2.imp id ?_⟩, h.small, h.full⟩
  rintro ⟨q, cap, cur, hv, hb, hq, r⟩
  exact ⟨q, cap, cur, hv, hb, hk _ _ _ _ (.inr rfl) hq, r⟩

/-- What a step of the buffer keeps. -/
def BKeeps (B : Nat) (X Y : World) : Prop := Below B X Y ∧ ∀ (k : Nat) (o : Obj), X.heap[k]? = some o → (∀ c t fz, o = .cells c t fz → t ≠ 51 ∧ t ≠ 9) → Y.heap[k]? = some o
theorem bkeeps_refl (B : Nat) (X : World) : BKeeps B X X := ⟨Below.refl _ _, fun _ _ h _ => h⟩
theorem gstep_keeps {B g : Nat} {sv : Value} {lent : Bool} {ps ps' : List ByteArray} {W W' : World} (h : BufIs W B g sv lent ps) (hB : B ≤ W.heap.size) (hg : GStep B g sv lent ps' W W') : BKeeps B W W' := by
  obtain ⟨sv', lent', h', hc⟩ := hg
  rcases hc with ⟨rfl, _, _⟩ | ⟨_, hc⟩
  · exact bkeeps_refl _ _
  · have hrow : ∀ q, some q = sv.ownBlock → B ≤ q ∧ ∃ cur, W.heap[q]? = some (.cells cur 9 (0, 0)) := fun q hq => by
      rcases h.row.2 with ⟨rfl, _⟩ | ⟨q', cap, cur, rfl, hb, hq', r⟩
      · cases hq
      · obtain rfl : q = q' := by simpa [Value.ownBlock] using hq
        exact ⟨hb, cur, hq'⟩
    refine ⟨hc.1.below hB fun i hi => ?_, fun k o hk ho => (hc.1.block k (lt_of_heap hk) fun e => ?_).trans hk⟩
    · rcases hi with rfl | ⟨_, hi⟩
      · exact h.hB
      · exact (hrow i hi).1
    · rcases e with rfl | ⟨_, e⟩
      · rw [h.blk] at hk
        cases hk
        exact (ho _ _ _ rfl).1 rfl
      · obtain ⟨_, cur, hq⟩ := hrow k e
        rw [hq] at hk
        cases hk
        exact (ho _ _ _ rfl).2 rfl

/-- A buffer whose text is known. -/
def BT (B g : Nat) (N : Nat) (txt : List UInt8) (W : World) : Prop := ∃ sv lent ps, BufIs W B g sv lent ps ∧ text ps = txt ∧ ps.length ≤ N
theorem bt_kept {B g N : Nat} {txt : List UInt8} {X Y : World} (h : BT B g N txt X) (hk : ∀ (k : Nat) (c : Array Value) (t : TypeId) (fz : Nat × Nat), t = 51 ∨ t = 9 → X.heap[k]? = some (.cells c t fz) → Y.heap[k]? = some (.cells c t fz)) : BT B g N txt Y := by
  obtain ⟨sv, lent, ps, hb, ht, hl⟩ := h
  exact ⟨sv, lent, ps, bufis_kept hb hk, ht, hl⟩

theorem delete_bt {B g N at_ d : Nat} {txt : List UInt8} {W : World} (hB : B ≤ W.heap.size) (h : BT B g N txt W) (hN : N ≤ 900000) (hd : at_ + d ≤ txt.length) :
    Calls Try.prog 29 #[.pointer (some ⟨g, 0, none⟩), .int .i64 (at_ : Int), .int .i64 (d : Int)] W fun e W' => e = .returned (.int .i64 0) ∧ BT B g (N + 3) (txt.take at_ ++ txt.drop (at_ + d)) W' ∧ BKeeps B W W' := by
  obtain ⟨sv, lent, ps, hb, rfl, hl⟩ := h
  have htt := hb.small
  rw [length_text] at hd
  refine (delete_gen (at_ : Int) (d : Int) hB hb (by omega) (by rw [IntKind.wrap_i64]; omega)).mono ?_
  rintro e W' ⟨r, rfl, (⟨_, _, _, rfl, hg⟩ | ⟨hn, _, _⟩)⟩
  · have hk := gstep_keeps hb hB hg
    obtain ⟨sv', lent', h', _⟩ := hg
    rw [Int.toNat_natCast, Int.toNat_natCast] at h'
    refine ⟨rfl, ⟨sv', lent', _, h', ?_, ?_⟩, hk⟩
    · rw [text_chgAt _ hd]; simp
    · have := len_chgAt (ps := ps) (n := at_) (k := d) ⟨#[]⟩ hd; omega
  · exact absurd ⟨by omega, by omega, by omega⟩ hn

theorem insert_bt {B g N at_ : Nat} {txt : List UInt8} {s : ByteArray} {W : World} (hB : B ≤ W.heap.size) (h : BT B g N txt W) (hN : N ≤ 900000) (hd : at_ ≤ txt.length) (hs : txt.length + s.size ≤ 16777216) :
    Calls Try.prog 30 #[.pointer (some ⟨g, 0, none⟩), .int .i64 (at_ : Int), .string s] W fun e W' => e = .returned (.int .i64 0) ∧ BT B g (N + 3) (txt.take at_ ++ (s.data.toList ++ txt.drop at_)) W' ∧ BKeeps B W W' := by
  obtain ⟨sv, lent, ps, hb, rfl, hl⟩ := h
  rw [length_text] at hd hs
  refine (insert_gen s (at_ : Int) hB hb (by omega) (by omega)).mono ?_
  rintro e W' ⟨r, rfl, (⟨_, _, _, rfl, hg⟩ | ⟨hn, _, _⟩ | ⟨_, _, hn, _, _⟩)⟩
  · have hk := gstep_keeps hb hB hg
    obtain ⟨sv', lent', h', _⟩ := hg
    rw [Int.toNat_natCast] at h'
    refine ⟨rfl, ⟨sv', lent', _, h', ?_, ?_⟩, hk⟩
    · rw [text_chgAt _ (by omega)]; simp
    · have := len_chgAt (ps := ps) (n := at_) (k := 0) s (by omega); omega
  · exact absurd ⟨by omega, by omega⟩ hn
  · exact absurd hs hn

end Go.Proofs.Ytpmijaplkbmbiaa.E

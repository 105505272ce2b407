/- The buffer: what is changed. -/
import Derived.Test.YtpmijaplkbmbiaaReplace4
import Derived.Test.YtpmijaplkbmbiaaBetween
namespace Go.Proofs.Ytpmijaplkbmbiaa
open Go.RowKit Go.By Go.Shelf
set_option linter.unusedVariables false

/-- The buffer at block g: its pieces are ps; sv is the slice of them. -/
structure BufIs (W : World) (B g : Nat) (sv : Value) (lent : Bool) (ps : List ByteArray) : Prop where
  hB : B ≤ g
  blk : W.heap[g]? = some (.cells #[.bool true, .bool lent, .int .i64 ((tot ps : Nat) : Int), sv] 51 (0, 0))
  row : W.ownsRow B 9 1 sv ps.length (strs ps)
  small : tot ps ≤ 16777216
  full : ∀ p ∈ ps, 0 < p.size

/-- Only the buffer's own blocks were turned: its struct; and its row, where it was not lent. -/
def Chg (g : Nat) (sv sv' : Value) (lent : Bool) (W W' : World) : Prop :=
  Only (fun k => k = g ∨ (lent = false ∧ some k = sv.ownBlock)) W W' ∧ ((lent = false ∧ sv'.ownBlock = sv.ownBlock) ∨ sv'.ownBlock = none ∨ ∃ k, sv'.ownBlock = some k ∧ W.heap.size ≤ k)

theorem _root_.Go.RowKit.Below.only {W W' : World} (h : Below W.heap.size W W') (S : Nat → Prop) : Only S W W' := ⟨h.os, h.tape, h.output, h.size, fun k hk _ => h.block k hk⟩

set_option maxRecDepth 20000 in
set_option maxHeartbeats 2000000 in
theorem replace_same (B : Nat) (sv vv : Value) (ps vs : List ByteArray) (i : Nat) (W : World) (hB : B ≤ W.heap.size) (hs : W.ownsRow B 9 1 sv ps.length (strs ps)) (hv : W.ownsRow B 9 1 vv vs.length (strs vs)) (hne : ∀ k, vv.ownBlock = some k → some k ≠ sv.ownBlock)
    (hm : 0 < vs.length) (hi : i ≤ ps.length) (hsz : ps.length + vs.length ≤ 1000000) :
    Calls Try.prog 122 #[sv, .int .i64 (i : Int), .int .i64 (i : Int), vv] W fun e W' => ∃ v', e = .returned v' ∧ Repl B sv W W' v' (ps.take i ++ vs ++ ps.drop i) := by
  have hins := insert_any B sv vv ps vs i W hB hs hv hne hm hi hsz
  obtain ⟨qs, hqs⟩ : ∃ qs, qs = ps.take i ++ vs ++ ps.drop i := ⟨_, rfl⟩
  rw [← hqs] at hins ⊢
  clear hqs
  rcases row_open hs with ⟨rfl, rfl⟩ | ⟨k, cap, L, rfl, hkB, hh, hc, hcm, hL, ht⟩
  · obtain rfl : i = 0 := by simpa using hi
    clear hs hv hne
    go_enter Try.func122, Try.ntmps122
    go_wp2_with (go_at_call 145; refine hins.mono ?_; rintro e w' ⟨v', rfl, hr⟩; have HR := hide hr; clear hr hins)
    go_ret
    exact ⟨_, rfl, HR.out⟩
  · have b1 : (i : Int) ≤ (cap : Int) := by omega
    have b2 : i ≤ cap := by omega
    clear hs hv hne hh ht
    by_cases hcc : cap = i
    · subst hcc
      go_enter Try.func122, Try.ntmps122
      go_wp2_with (go_at_call 145; refine hins.mono ?_; rintro e w' ⟨v', rfl, hr⟩; have HR := hide hr; clear hr hins)
      go_ret
      exact ⟨_, rfl, HR.out⟩
    · go_enter Try.func122, Try.ntmps122
      go_wp2_with (go_at_call 145; refine hins.mono ?_; rintro e w' ⟨v', rfl, hr⟩; have HR := hide hr; clear hr hins)
      go_ret
      exact ⟨_, rfl, HR.out⟩

set_option maxRecDepth 20000 in
set_option maxHeartbeats 2000000 in
/-- own(): behind it the row is the buffer's alone. -/
theorem own_lent (B g : Nat) (sv : Value) (ps : List ByteArray) (W : World) (h : BufIs W B g sv true ps) (hB : B ≤ W.heap.size) (hsz : ps.length ≤ 1000000) :
    Calls Try.prog 121 #[.pointer (some ⟨g, 0, none⟩)] W fun e W' => e = .returned (.tuple #[]) ∧ ∃ sv', BufIs W' B g sv' false ps ∧ Only (fun k => k = g) W W' ∧ (sv'.ownBlock = none ∨ ∃ k, sv'.ownBlock = some k ∧ W.heap.size ≤ k) := by
  obtain ⟨hBg, hblk, hrow, hsm, hfl⟩ := h
  have hcl : Calls Try.prog 144 #[sv] W fun e w' => ∃ a c, e = .returned (.slice a ps.length c) ∧ w'.ownsRow W.heap.size 9 1 (.slice a ps.length c) ps.length (strs ps) ∧ Below W.heap.size W w' := by
    rcases row_open hrow with ⟨rfl, rfl⟩ | ⟨k, cap, L, rfl, hkB, hh, hc, hcm, hL, ht⟩
    · refine (Try.slices_Clone_string_nil 0 0 W).mono ?_
      rintro e w' ⟨rfl, rfl⟩
      exact ⟨none, 0, rfl, World.ownsRow_nil _ _ _ _, Below.refl _ _⟩
    · have fin : ∀ (v' : Value) (w' : World), w'.ownsRow W.heap.size 9 1 v' ps.length (strs ps) → v' ≠ .slice none 0 0 → ∃ a c, v' = .slice a ps.length c := fun v' w' hr _ => by
        rcases hr.2 with ⟨rfl, h0⟩ | ⟨g, c, cur, rfl, _⟩
        · exact ⟨none, 0, by rw [h0]⟩
        · exact ⟨_, c, rfl⟩
      by_cases h0 : ps = []
      · subst h0
        refine (Try.slices_Clone_string_zero ⟨k, 0, none⟩ cap W).mono ?_
        rintro e w' ⟨v', rfl, hr, hn, hb⟩
        obtain ⟨a, c, rfl⟩ := fin v' w' (by simpa using hr) hn
        exact ⟨a, c, rfl, by simpa using hr, hb⟩
      · refine (Try.slices_Clone_string k 0 ps.length cap ps W (Nat.le_refl _) (by omega) (fun x hx => by
          have := cells_of hh ht x (.string (ps.getD x ByteArray.empty)) (by simp [List.getD, hx])
          exact this)).mono ?_
        rintro e w' ⟨v', rfl, hr, hn, hb⟩
        rw [List.take_length] at hr
        obtain ⟨a, c, rfl⟩ := fin v' w' hr hn
        exact ⟨a, c, rfl, hr, hb⟩
  have c1 : W.cell? ⟨g, 1, none⟩ = some (.bool true) := by rw [Joins.cell_of_block hblk]; rfl
  have c3 : W.cell? ⟨g, 3, none⟩ = some sv := by rw [Joins.cell_of_block hblk]; rfl
  have hgl := lt_of_heap hblk
  have HB := hide hblk
  clear hblk hrow
  go_enter Try.func121, Try.ntmps121
  go_wp2_with (go_at_call 144; refine hcl.mono ?_; rintro e w2 ⟨a, c, rfl, hr2, hb2⟩; clear hcl; have hblk2 := (hb2.block g hgl).trans HB.out; have d1 : w2.cell? ⟨g, 1, none⟩ = some (.bool true) := (by rw [Joins.cell_of_block hblk2]; rfl); have d3 : w2.cell? ⟨g, 3, none⟩ = some sv := (by rw [Joins.cell_of_block hblk2]; rfl); have f1 : w2.frozen? ⟨g, 1, none⟩ = false := (by simp [World.frozen?, hblk2]); have f3 : w2.frozen? ⟨g, 3, none⟩ = false := (by simp [World.frozen?, hblk2]); have HR2 := hide hr2; have HB2 := hide hb2; have HK2 := hide hblk2; clear hr2 hb2 hblk2)
  go_end0
  have h3 := heap_setCell (i := 1) (heap_setCell (i := 3) HK2.out (.slice a ps.length c)) (.bool false)
  have hne : ∀ k, (Value.slice a ps.length c).ownBlock = some k → k ≠ g := fun k hk => by have := (ownBlock_lt HR2.out hk).1; omega
  refine ⟨rfl, .slice a ps.length c, ⟨hBg, by simpa using h3, ?_, hsm, hfl⟩, ?_, ?_⟩
  · have hr := ownsRow_same (w' := (w2.setCell ⟨g, 3, none⟩ (.slice a ps.length c)).setCell ⟨g, 1, none⟩ (.bool false)) HR2.out (fun k hk => by rw [heap_setCell_ne _ (hne k hk), heap_setCell_ne _ (hne k hk)])
    exact Joins.ownsRow_le hr hB
  · exact (((HB2.out.only (fun k => k = g)).trans (Only.setCell (S := fun k => k = g) _ ⟨g, 3, none⟩ _ rfl)).trans (Only.setCell (S := fun k => k = g) _ ⟨g, 1, none⟩ _ rfl))
  · rcases hb : (Value.slice a ps.length c).ownBlock with _ | k
    · exact .inl rfl
    · exact .inr ⟨k, rfl, (ownBlock_lt HR2.out hb).1⟩

set_option maxHeartbeats 1000000 in
theorem own_free (B g : Nat) (sv : Value) (ps : List ByteArray) (W : World) (h : BufIs W B g sv false ps) :
    Calls Try.prog 121 #[.pointer (some ⟨g, 0, none⟩)] W fun e W' => e = .returned (.tuple #[]) ∧ W' = W := by
  have c1 : W.cell? ⟨g, 1, none⟩ = some (.bool false) := by rw [Joins.cell_of_block h.blk]; rfl
  clear h
  go_enter Try.func121, Try.ntmps121
  go_wp2
  go_end0
  exact ⟨rfl, rfl⟩

/-- own(), lent or not. -/
theorem own_any (B g : Nat) (sv : Value) (lent : Bool) (ps : List ByteArray) (W : World) (h : BufIs W B g sv lent ps) (hB : B ≤ W.heap.size) (hsz : ps.length ≤ 1000000) :
    Calls Try.prog 121 #[.pointer (some ⟨g, 0, none⟩)] W fun e W' => e = .returned (.tuple #[]) ∧ ∃ sv', BufIs W' B g sv' false ps ∧ Chg g sv sv' lent W W' := by
  cases lent with
  | true =>
    refine (own_lent B g sv ps W h hB hsz).mono ?_
    rintro e W' ⟨rfl, sv', h', ho, hk⟩
    exact ⟨rfl, sv', h', ho.mono fun k _ e => .inl e, .inr hk⟩
  | false =>
    refine (own_free B g sv ps W h).mono ?_
    rintro e W' ⟨rfl, rfl⟩
    exact ⟨rfl, sv, h, Only.refl _ _, .inl ⟨rfl, rfl⟩⟩

end Go.Proofs.Ytpmijaplkbmbiaa

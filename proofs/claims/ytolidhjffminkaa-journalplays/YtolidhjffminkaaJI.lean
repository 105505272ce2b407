/- journal: what was told, and what is appended behind, while more comes. -/
import Derived.Test.YtolidhjffminkaaJH
namespace Go.Proofs.Ytolidhjffminkaa.J
open Go.Proofs.Ytolidhjffminkaa Go.RowKit Go.By
set_option linter.unusedVariables false
set_option linter.unusedSimpArgs false

/-- Between two rounds: the journal, what was told (in a block from B1 on, below hx), what was appended since (in one from hx on). -/
structure S2 (w0 : World) (j g most : Nat) (r0 : Option Nat) (B1 hx : Nat) (aw : Option Addr) (A : List ByteArray) (W : World) (r : Option Nat) (v : Value) (T : List ByteArray) : Prop where
  jn : Jn w0 W j g most r 0 (A ++ T)
  rc : r = r0 ∨ ∃ q, r = some q ∧ hx ≤ q
  was : A = [] ∨ ∃ b off, aw = some ⟨b, off, none⟩ ∧ B1 ≤ b ∧ b < hx ∧ ∀ i, i < A.length → W.cell? ⟨b, off + i, none⟩ = some (.string (A.getD i ⟨#[]⟩))
  own : W.ownsRow hx 9 1 v T.length (T.map Value.string)
  apart : ∀ q, v.ownBlock = some q → r ≠ some q
  size : hx ≤ W.heap.size

theorem S2.turn {w0 : World} {j g most : Nat} {r0 : Option Nat} {B1 hx : Nat} {aw : Option Addr} {A : List ByteArray} {W W' : World} {r r' : Option Nat} {v : Value} {T T' : List ByteArray} (h : S2 w0 j g most r0 B1 hx aw A W r v T) (hj : j < B1) (hg : g < B1) (hB : B1 ≤ hx) (hr0 : ∀ q, r0 = some q → q < B1)
    (hn : Jn w0 W' j g most r' 0 (A ++ T')) (ht : TurnJ j g r r' W W') : Jn w0 W' j g most r' 0 (A ++ T') ∧ (r' = r0 ∨ ∃ q, r' = some q ∧ hx ≤ q) ∧ (A = [] ∨ ∃ b off, aw = some ⟨b, off, none⟩ ∧ B1 ≤ b ∧ b < hx ∧ ∀ i, i < A.length → W'.cell? ⟨b, off + i, none⟩ = some (.string (A.getD i ⟨#[]⟩))) ∧ W'.ownsRow hx 9 1 v T.length (T.map Value.string) ∧ (∀ q, v.ownBlock = some q → r' ≠ some q) ∧ hx ≤ W'.heap.size := by
  have hsz := ht.1.size
  have hs := h.size
  refine ⟨hn, ?_, ?_, ?_, ?_, by omega⟩
  · rcases ht.2 with e | ⟨q, e, hq⟩
    · rw [e]; exact h.rc
    · exact .inr ⟨q, e, by omega⟩
  · rcases h.was with e | ⟨b, off, e, h1, h2, hc⟩
    · exact .inl e
    · refine .inr ⟨b, off, e, h1, h2, fun i hi => ?_⟩
      have hb : W'.heap[b]? = W.heap[b]? := ht.1.block b (by omega) fun hS => by
        rcases hS with e1 | e1 | e1
        · omega
        · omega
        · rcases h.rc with e2 | ⟨q, e2, hq⟩
          · rw [e2] at e1; have := hr0 b e1.symm; omega
          · rw [e2] at e1; cases e1; omega
      exact (World.cell?_of_block (a := ⟨b, off + i, none⟩) hb).trans (hc i hi)
  · refine ownsRow_same h.own fun q hq => ht.1.block q (ownBlock_lt h.own hq).2 fun hS => ?_
    have := (ownBlock_lt h.own hq).1
    rcases hS with e1 | e1 | e1
    · omega
    · omega
    · exact h.apart q hq e1.symm
  · intro q hq e
    have hql := ownBlock_lt h.own hq
    rcases ht.2 with e2 | ⟨q2, e2, hq2⟩
    · rw [e2] at e; exact h.apart q hq e
    · rw [e2] at e; cases e; omega

/-- More is appended to what was appended. -/
theorem S2.more {w0 : World} {j g most : Nat} {r0 : Option Nat} {B1 hx : Nat} {aw : Option Addr} {A : List ByteArray} {W W1 : World} {r : Option Nat} {v : Value} {T T' : List ByteArray} {x : ByteArray} {o : Obj} {k cap : Nat} (hw0 : w0.heap.size ≤ B1) (hj : j < B1) (hg : g < B1) (hB : B1 ≤ hx) (hr0 : ∀ q, r0 = some q → q < B1)
    (hjn : Jn w0 W j g most r 0 (A ++ T')) (hrc : r = r0 ∨ ∃ q, r = some q ∧ hx ≤ q) (hwas : A = [] ∨ ∃ b off, aw = some ⟨b, off, none⟩ ∧ B1 ≤ b ∧ b < hx ∧ ∀ i, i < A.length → W.cell? ⟨b, off + i, none⟩ = some (.string (A.getD i ⟨#[]⟩)))
    (hown : W.ownsRow hx 9 1 v T.length (T.map Value.string)) (hap : ∀ q, v.ownBlock = some q → r ≠ some q) (hsz : hx ≤ W.heap.size) (hT : T' = T ++ [x])
    (hown' : W1.ownsRow hx 9 1 (.slice (some ⟨k, 0, none⟩) (T.length + 1) cap) (T.length + 1) (T.map Value.string ++ [.string x])) (hgr : (W.alloc o).grownBy W1 v.ownBlock) (hk : v.ownBlock = some k ∨ k = W.heap.size + 1) :
    S2 w0 j g most r0 B1 hx aw A W1 r (.slice (some ⟨k, 0, none⟩) (T.length + 1) cap) T' := by
  have ha : (W.alloc o).heap.size = W.heap.size + 1 := World.size_alloc ..
  have hblk : ∀ b, b < W.heap.size → some b ≠ v.ownBlock → W1.heap[b]? = W.heap[b]? := fun b h1 h2 => (hgr.block b (by omega) h2).trans (Below.heap_alloc W o b h1)
  have hvb : ∀ q, v.ownBlock = some q → hx ≤ q ∧ q < W.heap.size := fun q hq => ownBlock_lt hown hq
  have hjl := hjn.1.lt
  have hgl := hjn.1.2.2.lt.2
  have hbel : Below w0.heap.size W W1 := (((Below.refl w0.heap.size W).alloc hjn.2.size o).grown hgr (by omega) fun q hq => by have := (hvb q hq).1; omega)
  refine ⟨⟨⟨hjn.1.1, (hblk j hjl fun e => by have := (hvb j e.symm).1; omega).trans hjn.1.2.1, hjn.1.2.2.same (hblk g hgl fun e => by have := (hvb g e.symm).1; omega) fun q hq => hblk q (hjn.1.2.2.room q hq).2 fun e => hap q e.symm hq⟩, hjn.2.trans hbel⟩, hrc, ?_, ?_, ?_, by have := hgr.size; omega⟩
  · rcases hwas with e | ⟨b, off, e, h1, h2, hc⟩
    · exact .inl e
    · exact .inr ⟨b, off, e, h1, h2, fun i hi => (World.cell?_of_block (a := ⟨b, off + i, none⟩) (hblk b (by omega) fun e => by have := (hvb b e.symm).1; omega)).trans (hc i hi)⟩
  · rw [hT]
    simpa using hown'
  · intro q hq e
    have hqk : q = k := by simp [Value.ownBlock] at hq; exact hq.symm
    subst hqk
    rcases hk with hk | hk
    · exact hap q hk e
    · have := (hjn.1.2.2.room q e).2; omega

/-- 'append(told[:n:n], src...)', lists of texts. -/
theorem wpList_append_texts {w : World} {ops : Array Oper} {rest : List Oper} {o : Oper} {x0 : Act} {Q : Exit → Act → World → Prop} (hgd : Region.wanted o (yielded ops x0.tmps) = true) (s x : Operand)
    (ho : o.op = .call { callee := .builtin .append, args := #[s, x], argTypes := #[26, 26] })
    (l l2 : List ByteArray) (u ad : Option Addr) (n m cap : Nat) (hn : l.length = n) (hm : l2.length = m) (hL : LS w u l) (hM : LS w ad l2) (hs : x0.eval s = .slice u n n) (hx : x0.eval x = .slice ad m cap) (hsz : n + m ≤ 10000)
    (h : ∀ u' c w', LS w' u' (l ++ l2) → Below w.heap.size w w' → wpList Try.prog ops Q rest (x0.put o.dst (.slice u' (n + m) c)) w') : wpList Try.prog ops Q (o :: rest) x0 w := by
  obtain ⟨i0, hi, hz0, hz1, hz2⟩ := info_parts Try.info9
  have ht := Try.underlying26
  have news : ∀ (b off : Nat) (l : List ByteArray), (∀ i, i < l.length → w.cell? ⟨b, off + i, none⟩ = some (.string (l.getD i ⟨#[]⟩))) → ∀ i v, (l.map Value.string)[i]? = some v → w.cell? ((⟨b, off, none⟩ : Addr).add i) = some v := by
    intro b off l hc i v hv
    have hi : i < l.length := by
      rcases Nat.lt_or_ge i l.length with h | h
      · exact h
      · simp [h] at hv
    rw [add_eq, hc i hi]
    simp [hi] at hv
    simp [List.getD, hi, hv]
  refine wpList_step fun K hK' => ?_
  rw [if_pos hgd]
  have done : ∀ v' w', (Builtin.append_ #[26, 26] o.type #[.slice u n n, .slice ad m cap]).run Try.prog w = .ok v' w' → wpList Try.prog ops Q rest (x0.put o.dst v') w' → Oper.wp Try.prog o x0 w K Q := by
    intro v' w' hrun hrest
    unfold Oper.wp
    simp [execOp, ho, resolve, invoke, builtin, hs, hx, hrun, Result.andThen]
    exact hK' _ _ hrest
  by_cases h0 : m = 0
  · have hm0 : l2 = [] := List.length_eq_zero_iff.1 (by omega)
    subst hm0
    subst h0
    have hsrc : Src Try.prog i0.size 26 (.slice ad 0 cap) 0 [] w := by
      cases ad with
      | none => exact Src.ofNil w ht cap
      | some y => exact Src.ofSlice w ht y 0 cap [] (by simp) (by simp) (by simp)
    have hrun := run_append_nothing (P := Try.prog) w 26 26 o.type 9 i0 ht hi u n n (Nat.le_refl _) (.slice ad 0 cap) hsrc
    exact done _ _ hrun (h u n w (by rw [List.append_nil]; exact hL) (Below.refl _ _))
  · obtain ⟨b2, o2, rfl, hc2⟩ : ∃ b off, ad = some ⟨b, off, none⟩ ∧ ∀ i, i < l2.length → w.cell? ⟨b, off + i, none⟩ = some (.string (l2.getD i ⟨#[]⟩)) := by
      rcases hM with rfl | h1
      · simp at hm; omega
      · exact h1
    have fin : ∀ v' w', (Builtin.append_ #[26, 26] o.type #[.slice u n n, .slice (some ⟨b2, o2, none⟩) m cap]).run Try.prog w = .ok v' w' → w'.ownsRow w.heap.size 9 1 v' (n + m) (l.map Value.string ++ l2.map Value.string) → Below w.heap.size w w' → Oper.wp Try.prog o x0 w K Q := by
      intro v' w' hrun hown hbel
      have hlen : (l ++ l2).length = n + m := by rw [List.length_append]; omega
      have hrow : w'.ownsRow w.heap.size 9 1 v' (l ++ l2).length ((l ++ l2).map Value.string) := by rw [hlen, List.map_append]; exact hown
      obtain ⟨a', c', hv, hls⟩ := row_ls hrow
      rw [hlen] at hv
      subst hv
      exact done _ _ hrun (h a' c' w' hls hbel)
    cases u with
    | none =>
      have hn0 : n = 0 := by
        rcases hL with e | ⟨b, off, e, _⟩
        · rw [e] at hn; simpa using hn.symm
        · cases e
      subst hn0
      have hl0 : l = [] := List.length_eq_zero_iff.1 hn
      subst hl0
      obtain ⟨v', w', hrun, r1, r2, _⟩ := run_append_own (P := Try.prog) w w.heap.size 26 o.type 9 i0 (.string ⟨#[]⟩) 1 16 ht hi hz0 hz1 hz2 rfl (by decide) (.slice none 0 0) 0 [] (World.ownsRow_nil _ _ _ _) ⟨b2, o2, none⟩ m cap (l2.map Value.string) (by simp [hm]) (news b2 o2 l2 hc2) (by intro u hu; obtain ⟨c, _, rfl⟩ := List.mem_map.1 hu; rfl) (by unfold maxLen; omega) (by omega) (Nat.le_refl _)
      refine fin v' w' hrun (by simpa using r1) ⟨r2.os, r2.tape, r2.output, r2.size, fun k hk => r2.block k hk (by simp [Value.ownBlock])⟩
    | some y =>
      by_cases hl0 : l = []
      · subst hl0
        have hn0 : n = 0 := by simpa using hn.symm
        subst hn0
        obtain ⟨v', w', hrun, hown, hg⟩ := run_append_arg_grows (P := Try.prog) w 26 o.type 9 i0 (.string ⟨#[]⟩) 1 16 ht hi hz0 hz1 hz2 rfl (by decide) y 0 0 [] (by simp) (by simp) ⟨b2, o2, none⟩ m cap (l2.map Value.string) (by simp [hm]) (news b2 o2 l2 hc2) (by omega) (by unfold maxLen; omega) (by omega)
        exact fin v' w' hrun (by simpa using hown) ((Below.refl _ _).grown hg (Nat.le_refl _) fun k hk => by cases hk)
      · obtain ⟨b1, o1, e1, hc1⟩ : ∃ b off, some y = some ⟨b, off, none⟩ ∧ ∀ i, i < l.length → w.cell? ⟨b, off + i, none⟩ = some (.string (l.getD i ⟨#[]⟩)) := by
          rcases hL with e | h1
          · exact absurd e hl0
          · exact h1
        cases e1
        obtain ⟨v', w', hrun, hown, hg⟩ := run_append_arg_grows (P := Try.prog) w 26 o.type 9 i0 (.string ⟨#[]⟩) 1 16 ht hi hz0 hz1 hz2 rfl (by decide) ⟨b1, o1, none⟩ n n (l.map Value.string) (by simp [hn]) (news b1 o1 l hc1) ⟨b2, o2, none⟩ m cap (l2.map Value.string) (by simp [hm]) (news b2 o2 l2 hc2) (by omega) (by unfold maxLen; omega) (by omega)
        exact fin v' w' hrun hown ((Below.refl _ _).grown hg (Nat.le_refl _) fun k hk => by cases hk)
theorem slice_hm26 (a : Option Addr) (n cap : Nat) (h : n ≤ cap) (w : World) :
    (Instr.slice 26 (.slice a n cap) none (some (.int .i64 (n : Int))) (some (.int .i64 (n : Int)))).run Try.prog w = .ok (.slice a n n) w := by
  rw [run_slice_hm w 26 a n cap (by exact Try.underlying26) .i64 .i64 n n (by omega) (by omega) (by omega)]
  have hs : (sizeOf (Try.prog.elem 26)).run Try.prog w = .ok 1 w := by kernel_rfl
  rw [hs]
  simp [Result.andThen, sliced]
  cases a with
  | none => simp
  | some x => simp [Addr.add]
end Go.Proofs.Ytolidhjffminkaa.J

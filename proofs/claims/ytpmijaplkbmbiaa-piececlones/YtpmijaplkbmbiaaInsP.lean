/- The document's New, Insert and Delete of a list of pieces, walked. -/
import Derived.Test.YtpmijaplkbmbiaaPartP
namespace Go.Proofs.Ytpmijaplkbmbiaa
open Go.RowKit Go.By Go.Shelf
set_option linter.unusedVariables false

/-- 'append(own, src...)', whatever the source: nil or not. -/
theorem wpList_append_vals {P : Program} {w : World} {ops : Array Oper} {rest : List Oper} {o : Oper} {a : Act} {Q : Exit → Act → World → Prop} (hgd : o.guard = none) (s x : Operand) (T E : TypeId)
    (ho : o.op = .call { callee := .builtin .append, args := #[s, x], argTypes := #[T, T] })
    (ht : P.underlying T = some (.slice E)) (z : Value) (bytes : Nat) (hinfo : (P.info? E).map (fun i => (i.zero, i.size, i.bytes)) = some (some z, 1, bytes)) (hz : z.cells.size = 1) (base : Nat)
    (v : Value) (n : Nat) (l : List Value) (hs : a.eval s = v) (hown : w.ownsRow base E 1 v n l)
    (ad : Option Addr) (m : List Value) (k cap : Nat) (hx : a.eval x = .slice ad k cap) (hk : m.length = k) (hm : ∀ y, ad = some y → ∀ j u, m[j]? = some u → w.cell? (y.add j) = some u) (hnil : ad = none → m = [] ∧ cap = 0) (h1 : ∀ u ∈ m, u.oneCell' = true)
    (h63 : n + k ≤ maxLen) (hbytes : (n + k) * bytes ≤ 140737488355328) (hbase : base ≤ w.heap.size)
    (h : ∀ v' w', w'.ownsRow base E 1 v' (n + k) (l ++ m) → w.grownBy w' v.ownBlock → wpList P ops Q rest (a.put o.dst v') w') : wpList P ops Q (o :: rest) a w := by
  obtain ⟨i0, hi, hz0, hz1, hz2⟩ := info_parts hinfo
  subst hk
  cases ad with
  | none =>
    obtain ⟨rfl, rfl⟩ := hnil rfl
    refine wpList_append_own_none hgd s x T ho base E i0 1 ht hi v n l hs hown hx (h v w (by simpa using hown) ?_)
    exact ⟨rfl, rfl, rfl, Nat.le_refl _, fun _ _ _ => rfl⟩
  | some y =>
    refine wpList_append_own w hgd s x T ho base E i0 z 1 bytes ht hi hz0 hz1 hz2 hz (by decide) v n l hs hown y m.length cap m hx (by simp) (hm y rfl) h1 h63 hbytes hbase ?_
    intro v' w' h1 h2 _
    exact h v' w' h1 h2

theorem owns_empty3 (w : World) (base : Nat) (E : TypeId) (hb : base ≤ w.heap.size) : (w.alloc (.cells #[] E)).ownsRow base E 1 (.slice (some ⟨w.heap.size, 0, none⟩) 0 0) 0 [] :=
  World.ownsRow_made w #[] 0 hb (by unfold maxLen; omega) rfl

theorem owns_one (w : World) (base : Nat) (E : TypeId) (z : Value) (hb : base ≤ w.heap.size) : (w.alloc (.cells #[z] E)).ownsRow base E 1 (.slice (some ⟨w.heap.size, 0, none⟩) 1 1) 1 [z] :=
  ⟨rfl, .inr ⟨_, 1, #[z], rfl, hb, World.alloc_heap_new w _, Nat.le_refl _, by unfold maxLen; omega, rfl, rfl⟩⟩

theorem len_strs (l : List ByteArray) : (strs l).length = l.length := by simp

theorem Txs.none_nil {w : World} {a : Option Addr} {n cap : Nat} {l : List ByteArray} (h : Txs w (.slice a n cap) l) : a = none → strs l = [] ∧ cap = 0 := by
  obtain ⟨a', cap', e, h1, h2, h3, _⟩ := h
  cases e
  intro e
  have := h3 e
  subst this
  exact ⟨by have : l = [] := List.length_eq_zero_iff.1 (by omega)
            simp [this], rfl⟩

/-- What the document's ways leave of a list: the same one, or a new one. -/
def RefTo (w w' : World) (v v' : Value) (l l' : List ByteArray) : Prop :=
  (v' = v ∧ l' = l ∧ w' = w) ∨ (w'.ownsRow w.heap.size 9 1 v' l'.length (strs l') ∧ Below w.heap.size w w')

def InsROut (l : List ByteArray) (at_ : Int) (s : ByteArray) (v : Value) (w : World) (e : Ending) (w' : World) : Prop := ∃ (r : Int) (v' : Value) (l' : List ByteArray), e = .returned (.tuple #[v', .int .i64 r]) ∧ RefTo w w' v v' l l' ∧
  ((0 ≤ at_ ∧ at_ ≤ tot l ∧ tot l + s.size ≤ 16777216 ∧ r = 0 ∧ l' = chgAt l at_.toNat 0 s) ∨ (¬ (0 ≤ at_ ∧ at_ ≤ tot l) ∧ r = 30 ∧ l' = l) ∨ (0 ≤ at_ ∧ at_ ≤ tot l ∧ ¬ (tot l + s.size ≤ 16777216) ∧ r = 31 ∧ l' = l))

def DelROut (l : List ByteArray) (at_ many : Int) (v : Value) (w : World) (e : Ending) (w' : World) : Prop := ∃ (r : Int) (v' : Value) (l' : List ByteArray), e = .returned (.tuple #[v', .int .i64 r]) ∧ RefTo w w' v v' l l' ∧
  ((0 ≤ at_ ∧ 0 ≤ many ∧ at_ + many ≤ tot l ∧ r = 0 ∧ l' = chgAt l at_.toNat many.toNat ⟨#[]⟩) ∨ (¬ (0 ≤ at_ ∧ 0 ≤ many ∧ at_ + many ≤ tot l) ∧ r = 30 ∧ l' = l))

set_option maxRecDepth 20000 in
set_option maxHeartbeats 2000000 in
theorem ref_new (s : ByteArray) (w : World) (hs : s.size ≤ 2000) :
    Calls Try.prog 26 #[.string s] w fun e w' => ∃ v, e = .returned (.tuple #[v, .int .i64 0]) ∧ w'.ownsRow w.heap.size 9 1 v (mid' s).length (strs (mid' s)) ∧ Below w.heap.size w w' := by
  have i1 : ¬ (16777216 : Int) < (s.size : Int) := by omega
  by_cases h0 : s.size = 0
  · have s1 : s.toList.isEmpty = true := toList_none h0
    have e0 : mid' s = [] := by simp [mid', h0]
    rw [e0]
    clear h0 e0 hs
    go_enter Try.func26, Try.ntmps26
    go_wp2
    go_ret2
    exact ⟨_, rfl, World.ownsRow_nil _ _ _ _, Below.refl _ _⟩
  · have s1 : s.toList.isEmpty = false := toList_some h0
    have e0 : mid' s = [s] := by simp [mid', h0]
    rw [e0]
    clear h0 e0 hs
    go_enter Try.func26, Try.ntmps26
    go_wp2
    go_ret2
    exact ⟨_, rfl, owns_one w _ 9 (.string s) (Nat.le_refl _), (Below.refl _ w).alloc (Nat.le_refl _) _⟩

set_option maxRecDepth 20000 in
set_option maxHeartbeats 4000000 in
theorem ref_insert (v : Value) (l : List ByteArray) (at_ : Int) (s : ByteArray) (w : World) (h : Txs w v l) (hl : l.length ≤ 900000) (hf : ∀ p ∈ l, 0 < p.size) (ht : tot l ≤ 16777216) (hs : s.size ≤ 1000000000) :
    Calls Try.prog 89 #[v, .int .i64 at_, .string s] w (InsROut l at_ s v w) := by
  obtain ⟨a, cap, rfl⟩ : ∃ a cap, v = .slice a l.length cap := by obtain ⟨a, cap, e, _⟩ := h; exact ⟨a, cap, e⟩
  have htx := ref_text _ l w h (by omega)
  have hsz := size_str l
  have w1 : IntKind.i64.wrap (16777216 - ((str l).size : Int)) = 16777216 - ((str l).size : Int) := by rw [IntKind.wrap_i64]; omega
  by_cases h1 : 0 ≤ at_ ∧ at_ ≤ tot l
  · obtain ⟨n, rfl⟩ : ∃ n : Nat, at_ = n := ⟨at_.toNat, by omega⟩
    have i1 : ¬ (n : Int) < 0 := by omega
    have i2 : ¬ ((str l).size : Int) < (n : Int) := by omega
    have i2' : ¬ (str l).size < n := by omega
    by_cases h2 : tot l + s.size ≤ 16777216
    · have i3 : ¬ (16777216 - ((str l).size : Int) < (s.size : Int)) := by omega
      by_cases h0 : s.size = 0
      · have s1 : s.toList.isEmpty = true := toList_none h0
        have HC : Hid (chgAt l n 0 s = l) := hide (by unfold chgAt; rw [if_pos ⟨rfl, h0⟩])
        clear h0 h hf
        have H1 := hide h1
        clear h1 hsz
        go_enter Try.func89, Try.ntmps89
        go_wp2_with (go_at_call 87; refine htx.mono ?_; rintro e w' ⟨rfl, rfl⟩)
        go_ret2
        exact ⟨0, _, l, rfl, .inl ⟨rfl, rfl, rfl⟩, .inl ⟨H1.out.1, H1.out.2, h2, rfl, by rw [Int.toNat_natCast, HC.out]⟩⟩
      · have s1 : s.toList.isEmpty = false := toList_some h0
        have HC := hide (ins_chg l n s hf (by omega) h0)
        have hpt := ref_part _ l n w h (by omega) (by omega) hf (by omega) (by omega)
        have la := len_pA l n
        have lb := len_pB l n
        clear h0 h hf
        have H1 := hide h1
        clear h1 hsz
        go_enter Try.func89, Try.ntmps89
        go_wp2_with (first
          | (go_at_call 87; refine htx.mono ?_; rintro e w' ⟨rfl, rfl⟩)
          | (go_at_call 123; refine hpt.mono ?_; rintro e W1 ⟨va, vb, rfl, hpi⟩; obtain ⟨aa, ma, ca, rfl⟩ := slice_of_row hpi.ra; obtain ⟨ab, mb, cb, rfl⟩ := slice_of_row hpi.rb; have HP := hide hpi; obtain rfl : ma = (pA l n).length := (txs_of_row hpi.ra).news.1; obtain rfl : mb = (pB l n).length := (txs_of_row hpi.rb).news.1; clear hpi)
          | (at_builtin; refine wpList_append_vals (l := []) (n := 0) rfl (.tmp 37) (.tmp 38) 29 9 rfl Try.underlying29 (.string ⟨#[]⟩) 16 Try.info9 rfl W1.heap.size _ rfl (owns_empty3 W1 _ 9 (Nat.le_refl _)) aa (strs (pA l n)) (pA l n).length ca rfl (len_strs _) ((txs_of_row HP.out.ra).below ((Below.refl _ W1).alloc (Nat.le_refl _) _)).news.2 (txs_of_row HP.out.ra).none_nil (oneCell_strs _) (by unfold maxLen; omega) (by omega) (by simp) ?_; intro v1 w2 hr1 hg1; have hb1 : Below W1.heap.size W1 w2 := ((Below.refl _ W1).alloc (Nat.le_refl _) _).grown hg1 (by simp) (fun k hk => by cases hk; exact Nat.le_refl _); have HR1 := hide hr1; have HB1 := hide hb1; clear hr1 hg1 hb1)
          | (at_builtin; refine wpList_append_vals rfl (.tmp 39) (.tmp 41) 29 9 rfl Try.underlying29 (.string ⟨#[]⟩) 16 Try.info9 rfl W1.heap.size v1 (0 + (pA l n).length) ([] ++ strs (pA l n)) rfl (HR1.out.alloc _) (some ⟨w2.heap.size, 0, none⟩) [.string s] 1 1 rfl rfl (fun y hy => by cases hy; exact cell_one_new _ _ _) (fun e => by cases e) (by simp [Value.oneCell']) (by unfold maxLen; omega) (by omega) (by have := HB1.out.size; simp; omega) ?_; intro v2 w3 hr2 hg2; have hb2 : Below W1.heap.size W1 w3 := (HB1.out.alloc HB1.out.size _).grown hg2 (by have := HB1.out.size; simp; omega) (fun k hk => (ownBlock_lt HR1.out hk).1); have HR2 := hide hr2; have HB2 := hide hb2; clear hr2 hg2 hb2)
          | (at_builtin; refine wpList_append_vals rfl (.tmp 42) (.tmp 43) 29 9 rfl Try.underlying29 (.string ⟨#[]⟩) 16 Try.info9 rfl W1.heap.size v2 (0 + (pA l n).length + 1) ([] ++ strs (pA l n) ++ [.string s]) rfl HR2.out ab (strs (pB l n)) (pB l n).length cb rfl (len_strs _) ((txs_of_row HP.out.rb).below HB2.out).news.2 (txs_of_row HP.out.rb).none_nil (oneCell_strs _) (by unfold maxLen; omega) (by omega) HB2.out.size ?_; intro v3 w4 hr3 hg3; have hb3 : Below W1.heap.size W1 w4 := HB2.out.grown hg3 HB2.out.size (fun k hk => (ownBlock_lt HR2.out hk).1); have HR3 := hide hr3; have HB3 := hide hb3; clear hr3 hg3 hb3))
        go_ret2
        refine ⟨0, _, pA l n ++ [s] ++ pB l n, rfl, .inr ⟨?_, HP.out.blw.trans (HB3.out.mono HP.out.blw.size)⟩, .inl ⟨H1.out.1, H1.out.2, h2, rfl, by rw [Int.toNat_natCast, HC.out]⟩⟩
        have hr := Joins.ownsRow_le HR3.out HP.out.blw.size
        rw [show (pA l n ++ [s] ++ pB l n).length = 0 + (pA l n).length + 1 + (pB l n).length by simp; omega]
        simpa [strs] using hr
    · have i3 : (16777216 - ((str l).size : Int) < (s.size : Int)) := by omega
      have H1 := hide h1
      clear h1 hsz h hf
      go_enter Try.func89, Try.ntmps89
      go_wp2_with (go_at_call 87; refine htx.mono ?_; rintro e w' ⟨rfl, rfl⟩)
      go_ret2
      exact ⟨31, _, l, rfl, .inl ⟨rfl, rfl, rfl⟩, .inr (.inr ⟨H1.out.1, H1.out.2, h2, rfl, rfl⟩)⟩
  · have H1 := hide h1
    by_cases i1 : at_ < 0
    · clear h1 hsz h hf
      go_enter Try.func89, Try.ntmps89
      go_wp2_with (go_at_call 87; refine htx.mono ?_; rintro e w' ⟨rfl, rfl⟩)
      go_ret2
      exact ⟨30, _, l, rfl, .inl ⟨rfl, rfl, rfl⟩, .inr (.inl ⟨H1.out, rfl, rfl⟩)⟩
    · have i2 : ((str l).size : Int) < at_ := by omega
      clear h1 hsz h hf
      go_enter Try.func89, Try.ntmps89
      go_wp2_with (go_at_call 87; refine htx.mono ?_; rintro e w' ⟨rfl, rfl⟩)
      go_ret2
      exact ⟨30, _, l, rfl, .inl ⟨rfl, rfl, rfl⟩, .inr (.inl ⟨H1.out, rfl, rfl⟩)⟩

set_option maxRecDepth 20000 in
set_option maxHeartbeats 4000000 in
theorem ref_delete (v : Value) (l : List ByteArray) (at_ many : Int) (w : World) (h : Txs w v l) (hl : l.length ≤ 900000) (hf : ∀ p ∈ l, 0 < p.size) (ht : tot l ≤ 16777216) :
    Calls Try.prog 88 #[v, .int .i64 at_, .int .i64 many] w (DelROut l at_ many v w) := by
  obtain ⟨a, cap, rfl⟩ : ∃ a cap, v = .slice a l.length cap := by obtain ⟨a, cap, e, _⟩ := h; exact ⟨a, cap, e⟩
  have htx := ref_text _ l w h (by omega)
  have hsz := size_str l
  by_cases h1 : 0 ≤ at_ ∧ 0 ≤ many ∧ at_ + many ≤ tot l
  · obtain ⟨n, rfl⟩ : ∃ n : Nat, at_ = n := ⟨at_.toNat, by omega⟩
    obtain ⟨k, rfl⟩ : ∃ k : Nat, many = k := ⟨many.toNat, by omega⟩
    have w1 : IntKind.i64.wrap (((str l).size : Int) - (n : Int)) = ((str l).size : Int) - (n : Int) := by rw [IntKind.wrap_i64]; omega
    have i1 : ¬ (n : Int) < 0 := by omega
    have i1' : ¬ (k : Int) < 0 := by omega
    have i2 : ¬ ((str l).size : Int) < (n : Int) := by omega
    have i2' : ¬ (str l).size < n := by omega
    have i3 : ¬ (((str l).size : Int) - (n : Int) < (k : Int)) := by omega
    by_cases h0 : k = 0
    · subst h0
      have HC : Hid (chgAt l n 0 ⟨#[]⟩ = l) := hide (by unfold chgAt; rw [if_pos ⟨rfl, rfl⟩])
      have H1 := hide h1
      clear h1 hsz h hf i1'
      go_enter Try.func88, Try.ntmps88
      go_wp2_with (go_at_call 87; refine htx.mono ?_; rintro e w' ⟨rfl, rfl⟩)
      go_ret2
      exact ⟨0, _, l, rfl, .inl ⟨rfl, rfl, rfl⟩, .inl ⟨H1.out.1, H1.out.2.1, H1.out.2.2, rfl, by rw [Int.toNat_natCast]; exact HC.out.symm⟩⟩
    · have k0 : ¬ (k : Int) = 0 := by omega
      have HC := hide (del_chg l n k hf (by omega) h0)
      have hpt := ref_part _ l n w h (by omega) (by omega) hf (by omega) (by omega)
      have la := len_pA l n
      have lb := len_pB l n
      have lc := len_pB (pB l n) k
      have tb := tot_pB l n
      have HFB := hide (full_pB l n hf)
      have hk9 : k ≤ 16777216 := by omega
      clear h0 h hf
      have H1 := hide h1
      clear h1 hsz
      go_enter Try.func88, Try.ntmps88
      go_wp2_with (first
        | (go_at_call 87; refine htx.mono ?_; rintro e w' ⟨rfl, rfl⟩)
        | (go_at_call 123; refine (ref_part _ (pB l n) k _ (txs_of_row HP.out.rb) (by omega) (by omega) HFB.out (by omega) (by omega)).mono ?_; rintro e W2 ⟨va2, vb2, rfl, hpi2⟩; obtain ⟨aa2, ma2, ca2, rfl⟩ := slice_of_row hpi2.ra; obtain ⟨ab2, mb2, cb2, rfl⟩ := slice_of_row hpi2.rb; have HP2 := hide hpi2; obtain rfl : mb2 = (pB (pB l n) k).length := (txs_of_row hpi2.rb).news.1; clear hpi2)
        | (go_at_call 123; refine hpt.mono ?_; rintro e W1 ⟨va, vb, rfl, hpi⟩; obtain ⟨aa, ma, ca, rfl⟩ := slice_of_row hpi.ra; obtain ⟨ab, mb, cb, rfl⟩ := slice_of_row hpi.rb; have HP := hide hpi; obtain rfl : ma = (pA l n).length := (txs_of_row hpi.ra).news.1; obtain rfl : mb = (pB l n).length := (txs_of_row hpi.rb).news.1; clear hpi)
        | (at_builtin; refine wpList_append_vals (l := []) (n := 0) rfl (.tmp 50) (.tmp 51) 29 9 rfl Try.underlying29 (.string ⟨#[]⟩) 16 Try.info9 rfl W2.heap.size _ rfl (owns_empty3 W2 _ 9 (Nat.le_refl _)) aa (strs (pA l n)) (pA l n).length ca rfl (len_strs _) (((txs_of_row HP.out.ra).below HP2.out.blw).below ((Below.refl _ W2).alloc (Nat.le_refl _) _)).news.2 (txs_of_row HP.out.ra).none_nil (oneCell_strs _) (by unfold maxLen; omega) (by omega) (by simp) ?_; intro v1 w2 hr1 hg1; have hb1 : Below W2.heap.size W2 w2 := ((Below.refl _ W2).alloc (Nat.le_refl _) _).grown hg1 (by simp) (fun k hk => by cases hk; exact Nat.le_refl _); have HR1 := hide hr1; have HB1 := hide hb1; clear hr1 hg1 hb1)
        | (at_builtin; refine wpList_append_vals rfl (.tmp 52) (.tmp 53) 29 9 rfl Try.underlying29 (.string ⟨#[]⟩) 16 Try.info9 rfl W2.heap.size v1 (0 + (pA l n).length) ([] ++ strs (pA l n)) rfl HR1.out ab2 (strs (pB (pB l n) k)) (pB (pB l n) k).length cb2 rfl (len_strs _) ((txs_of_row HP2.out.rb).below HB1.out).news.2 (txs_of_row HP2.out.rb).none_nil (oneCell_strs _) (by unfold maxLen; omega) (by omega) HB1.out.size ?_; intro v3 w4 hr3 hg3; have hb3 : Below W2.heap.size W2 w4 := HB1.out.grown hg3 HB1.out.size (fun k hk => (ownBlock_lt HR1.out hk).1); have HR3 := hide hr3; have HB3 := hide hb3; clear hr3 hg3 hb3))
      go_ret2
      have hw2 := HP.out.blw.trans (HP2.out.blw.mono HP.out.blw.size)
      refine ⟨0, _, pA l n ++ pB (pB l n) k, rfl, .inr ⟨?_, hw2.trans (HB3.out.mono hw2.size)⟩, .inl ⟨H1.out.1, H1.out.2.1, H1.out.2.2, rfl, by rw [Int.toNat_natCast, Int.toNat_natCast, HC.out]⟩⟩
      have hr := Joins.ownsRow_le HR3.out hw2.size
      rw [show (pA l n ++ pB (pB l n) k).length = 0 + (pA l n).length + (pB (pB l n) k).length by simp]
      simpa [strs] using hr
  · have H1 := hide h1
    have hw : at_ < 0 ∨ many < 0 ∨ ((str l).size : Int) < at_ ∨ (0 ≤ at_ ∧ at_ ≤ (str l).size ∧ (str l).size - at_ < many) := by omega
    by_cases i1 : at_ < 0
    · clear h1 hsz h hf hw
      go_enter Try.func88, Try.ntmps88
      go_wp2_with (go_at_call 87; refine htx.mono ?_; rintro e w' ⟨rfl, rfl⟩)
      go_ret2
      exact ⟨30, _, l, rfl, .inl ⟨rfl, rfl, rfl⟩, .inr ⟨H1.out, rfl, rfl⟩⟩
    · by_cases i2 : many < 0
      · clear h1 hsz h hf hw
        go_enter Try.func88, Try.ntmps88
        go_wp2_with (go_at_call 87; refine htx.mono ?_; rintro e w' ⟨rfl, rfl⟩)
        go_ret2
        exact ⟨30, _, l, rfl, .inl ⟨rfl, rfl, rfl⟩, .inr ⟨H1.out, rfl, rfl⟩⟩
      · by_cases i3 : ((str l).size : Int) < at_
        · clear h1 hsz h hf hw
          go_enter Try.func88, Try.ntmps88
          go_wp2_with (go_at_call 87; refine htx.mono ?_; rintro e w' ⟨rfl, rfl⟩)
          go_ret2
          exact ⟨30, _, l, rfl, .inl ⟨rfl, rfl, rfl⟩, .inr ⟨H1.out, rfl, rfl⟩⟩
        · have w1 : IntKind.i64.wrap (((str l).size : Int) - at_) = ((str l).size : Int) - at_ := by rw [IntKind.wrap_i64]; omega
          have i4 : ((str l).size : Int) - at_ < many := by omega
          clear h1 hsz h hf hw
          go_enter Try.func88, Try.ntmps88
          go_wp2_with (go_at_call 87; refine htx.mono ?_; rintro e w' ⟨rfl, rfl⟩)
          go_ret2
          exact ⟨30, _, l, rfl, .inl ⟨rfl, rfl, rfl⟩, .inr ⟨H1.out, rfl, rfl⟩⟩

end Go.Proofs.Ytpmijaplkbmbiaa

/- frame: what was put is got. -/
import Derived.Test.YtgeboanebdmebaaFQ
import Derived.ArgAppend
import Derived.Deep.Upon
namespace Vary
theorem txt_put (d : List Nat) (h : d.length ≤ maxNum) : txt (putT d) = some (d, (putT d).length) := by
  unfold txt putT
  rw [num_put d h]
  simp only []
  rw [if_pos (by rw [List.length_append]; omega), List.drop_left, List.take_length, List.length_append]
end Vary
namespace Go.Proofs.Ytgeboanebdmebaa.F
open Go.Proofs.Ytgeboanebdmebaa Go.RowKit Go.By
set_option linter.unusedVariables false
set_option linter.unusedSimpArgs false
set_option maxRecDepth 20000
attribute [local go_sem ↓] Go.wp_at_zero Go.wp_at_succ

theorem good_parts {a b c : Int} {s : ByteArray} (h : goodP a b c s = true) : (0 ≤ a ∧ a ≤ 4611686018427387904) ∧ (0 ≤ b ∧ b ≤ 4611686018427387904) ∧ (0 ≤ c ∧ c ≤ 4611686018427387904) ∧ s.size ≤ 65536 := by
  rw [goodP] at h
  simp only [numB, Bool.and_eq_true, decide_eq_true_eq] at h
  exact ⟨h.1.1.1.1, h.1.1.1.2, h.1.1.2, h.1.2⟩

theorem body_nat {a b c : Nat} {s : ByteArray} (ha : a ≤ Vary.maxNum) (hb : b ≤ Vary.maxNum) (hc : c ≤ Vary.maxNum) : bodyL a b c s = Vary.put a ++ (Vary.put b ++ (Vary.put c ++ Vary.putT (nums s))) := by
  have hp : preL a b c 3 = Vary.putI a ++ Vary.putI b ++ Vary.putI c := by
    show (([] ++ Vary.putI (nth3 a b c 0)) ++ Vary.putI (nth3 a b c 1)) ++ Vary.putI (nth3 a b c 2) = _
    rw [List.nil_append]; rfl
  rw [bodyL, hp, putI_nat ha, putI_nat hb, putI_nat hc, List.append_assoc, List.append_assoc]

theorem parse4_body {a b c : Nat} {s : ByteArray} (ha : a ≤ Vary.maxNum) (hb : b ≤ Vary.maxNum) (hc : c ≤ Vary.maxNum) (hs : s.size ≤ 65536) : parse4 (bodyL a b c s) = some (a, b, c, nums s) := by
  rw [body_nat ha hb hc]
  have h1 := Vary.num_put (Vary.put b ++ (Vary.put c ++ Vary.putT (nums s))) ha
  have h2 := Vary.num_put (Vary.put c ++ Vary.putT (nums s)) hb
  have h3 := Vary.num_put (Vary.putT (nums s)) hc
  have h4 := Vary.txt_put (nums s) (by rw [nums_length]; unfold Vary.maxNum; omega)
  unfold parse4
  rw [h1]
  simp only []
  rw [List.drop_left, h2]
  simp only []
  rw [show (Vary.put a ++ (Vary.put b ++ (Vary.put c ++ Vary.putT (nums s)))).drop ((Vary.put a).length + (Vary.put b).length) = Vary.put c ++ Vary.putT (nums s) by rw [← List.drop_drop, List.drop_left, List.drop_left], h3]
  simp only []
  rw [show (Vary.put a ++ (Vary.put b ++ (Vary.put c ++ Vary.putT (nums s)))).drop ((Vary.put a).length + (Vary.put b).length + (Vary.put c).length) = Vary.putT (nums s) by rw [← List.drop_drop, ← List.drop_drop, List.drop_left, List.drop_left, List.drop_left], h4]
  simp only []
  rw [if_pos (by simp only [List.length_append]; omega)]

theorem parseP_body {a b c : Int} {s : ByteArray} (h : goodP a b c s = true) : parseP (bodyL a b c s) = ((a, b, c, s), true) := by
  obtain ⟨⟨a1, a2⟩, ⟨b1, b2⟩, ⟨c1, c2⟩, h4⟩ := good_parts h
  obtain ⟨x, rfl⟩ := Int.eq_ofNat_of_zero_le a1
  obtain ⟨y, rfl⟩ := Int.eq_ofNat_of_zero_le b1
  obtain ⟨z, rfl⟩ := Int.eq_ofNat_of_zero_le c1
  have hx : x ≤ Vary.maxNum := by unfold Vary.maxNum; omega
  have hy : y ≤ Vary.maxNum := by unfold Vary.maxNum; omega
  have hz : z ≤ Vary.maxNum := by unfold Vary.maxNum; omega
  unfold parseP
  rw [parse4_body hx hy hz h4]
  simp only [str_nums]
  rw [if_pos h]

theorem getP_frame {a b c : Int} {s : ByteArray} (h : goodP a b c s = true) (hs : s.size ≤ 2000) (r : List Nat) : getP (frameL a b c s ++ r) = ((a, b, c, s), (frameL a b c s).length, 0) := by
  have hb := bodyL_len a b c s
  have hp := parseP_body h
  generalize hB : bodyL a b c s = B at *
  have hm : B.length ≤ Vary.maxNum := by unfold Vary.maxNum; omega
  have hf : frameL a b c s = Vary.put B.length ++ Crc.sealed B := by rw [frameL, hB, putI_nat hm]
  have hsl := Crc.sealed_length B
  have hts : (Crc.sealed B).take B.length = B := by unfold Crc.sealed; exact List.take_left
  have htl : (Crc.sealed B ++ r).take (B.length + 4) = Crc.sealed B := by rw [← hsl]; exact List.take_left
  rw [hf, List.append_assoc]
  unfold getP
  rw [Vary.num_put _ hm]
  simp only []
  rw [List.drop_left, htl, hts, if_neg (by omega), if_neg (by simp only [List.length_append, hsl]; omega), if_neg (by simp), hp]
  simp only [if_true]
  rw [List.length_append, hsl]
  simp only [Nat.add_assoc]

/-- 'append(own[:n:n], src...)', whatever the source. -/
theorem wpList_append_behind {w : World} {ops : Array Oper} {rest : List Oper} {o : Oper} {x0 : Act} {Q : Exit → Act → World → Prop} (hgd : o.guard = none) (s x : Operand)
    (ho : o.op = .call { callee := .builtin .append, args := #[s, x], argTypes := #[28, 28] })
    (ht : Try.prog.underlying 28 = some (.slice 5)) (hinfo : (Try.prog.info? 5).map (fun i => (i.zero, i.size, i.bytes)) = some (some (.int .u8 0), 1, 1)) 
    (l : List Nat) (g n : Nat) (hn : l.length = n) (hL : Lies w (some ⟨g, 0, none⟩) l) (hs : x0.eval s = .slice (some ⟨g, 0, none⟩) n n)
    (ad : Option Addr) (m2 : List Nat) (m cap : Nat) (hx : x0.eval x = .slice ad m cap) (hm : m2.length = m) (hM : Lies w ad m2) (hnil : ad = none → m2 = [] ∧ cap = 0) (hpos : 0 < n) (hsz : n + m ≤ 100000)
    (h : ∀ u c w', Go.By.Came w'.heap.size w' u (l ++ m2) → n + m ≤ c → c ≤ maxLen → Below w.heap.size w w' → wpList Try.prog ops Q rest (x0.put o.dst (.slice u (n + m) c)) w') : wpList Try.prog ops Q (o :: rest) x0 w := by
  obtain ⟨i0, hi, hz0, hz1, hz2⟩ := info_parts hinfo
  have hcell : ∀ i, i < l.length → w.cell? ⟨g, 0 + i, none⟩ = some (.int .u8 ((l.getD i 0 : Nat) : Int)) := by
    rcases hL.2 with rfl | ⟨b, off, e, hc⟩
    · simp at hn; omega
    · cases e; exact hc
  refine wpList_plain hgd fun K hK' => ?_
  have done : ∀ v' w', (Builtin.append_ #[28, 28] o.type #[.slice (some ⟨g, 0, none⟩) n n, .slice ad m cap]).run Try.prog w = .ok v' w' → wpList Try.prog ops Q rest (x0.put o.dst v') w' → Oper.wp Try.prog o x0 w K Q := by
    intro v' w' hrun hrest
    unfold Oper.wp
    simp [execOp, ho, resolve, invoke, builtin, hs, hx, hrun, Result.andThen]
    exact hK' _ _ hrest
  by_cases h0 : m = 0
  · have hm0 : m2 = [] := List.length_eq_zero_iff.1 (by omega)
    subst hm0
    have hsrc : Src Try.prog i0.size 28 (.slice ad m cap) 0 [] w := by
      subst h0
      cases ad with
      | none => exact Src.ofNil w ht cap
      | some y => exact Src.ofSlice w ht y 0 cap [] (by simp) (by simp) (by simp)
    have hrun := run_append_nothing (P := Try.prog) w 28 28 o.type 5 i0 ht hi (some ⟨g, 0, none⟩) n n (Nat.le_refl _) (.slice ad m cap) hsrc
    refine done _ _ hrun ?_
    have := h (some ⟨g, 0, none⟩) n w (by rw [List.append_nil]; exact hL.came) (by omega) (by unfold maxLen; omega) (Below.refl _ _)
    rw [h0, Nat.add_zero] at this
    exact this
  · cases ad with
    | none => have := (hnil rfl).1; rw [this] at hm; simp at hm; omega
    | some y =>
      obtain ⟨b, off, e, hc2⟩ : ∃ b off, (some y : Option Addr) = some ⟨b, off, none⟩ ∧ ∀ i, i < m2.length → w.cell? ⟨b, off + i, none⟩ = some (.int .u8 ((m2.getD i 0 : Nat) : Int)) := by
        rcases hM.2 with rfl | h1
        · simp at hm; omega
        · exact h1
      cases e
      obtain ⟨v', w', hrun, hown, hg⟩ := run_append_arg_grows (P := Try.prog) w 28 o.type 5 i0 (.int .u8 0) 1 1 ht hi hz0 hz1 hz2 rfl (by decide) ⟨g, 0, none⟩ n n (l.map B8) (by simp [hn]) (news_of_lies hcell) ⟨b, off, none⟩ m cap (m2.map B8) (by simp [hm]) (news_of_lies hc2) (by omega) (by unfold maxLen; omega) (by omega)
      have howns : Owns w' w.heap.size v' (l ++ m2) := Owns.append (by rw [hn, hm]; exact hown) hL.1 hM.1
      obtain ⟨u, c, hv, h1, h2, h3, _⟩ := howns.form
      have hlen : (l ++ m2).length = n + m := by rw [List.length_append]; omega
      rw [hlen] at hv h1
      subst hv
      exact done _ _ hrun (h u c w' h3.came h1 h2 ((Below.refl _ _).grown hg (Nat.le_refl _) fun k hk => by cases hk))
end Go.Proofs.Ytgeboanebdmebaa.F

/- The document's parting, inserting and deleting of a list of pieces, walked. -/
import Derived.Test.YtpmijaplkbmbiaaRefP
import Derived.Test.YtpmijaplkbmbiaaPartM
namespace Go.Proofs.Ytpmijaplkbmbiaa
open Go.RowKit Go.By Go.Shelf
set_option linter.unusedVariables false

/-- Two rows of the call's own. -/
structure PI (w wr : World) (va vb : Value) (A B : List ByteArray) : Prop where
  ra : wr.ownsRow w.heap.size 9 1 va A.length (strs A)
  rb : wr.ownsRow w.heap.size 9 1 vb B.length (strs B)
  ne : ∀ k, va.ownBlock = some k → some k ≠ vb.ownBlock
  blw : Below w.heap.size w wr

theorem PI.symm {w wr : World} {va vb : Value} {A B : List ByteArray} (h : PI w wr va vb A B) : PI w wr vb va B A :=
  ⟨h.rb, h.ra, fun k hk e => h.ne k e.symm hk.symm, h.blw⟩

theorem PI.start (w : World) : PI w w (.slice none 0 0) (.slice none 0 0) [] [] :=
  ⟨World.ownsRow_nil _ _ _ _, World.ownsRow_nil _ _ _ _, (fun k hk => by cases hk), Below.refl _ w⟩

theorem PI.add {w wr WA : World} {va vb : Value} {A B : List ByteArray} {o : Obj} {kk cap1 : Nat} {q : ByteArray} (h : PI w wr va vb A B)
    (hr : WA.ownsRow w.heap.size 9 1 (.slice (some ⟨kk, 0, none⟩) (A.length + 1) cap1) (A.length + 1) (strs A ++ [.string q])) (hg : (wr.alloc o).grownBy WA va.ownBlock) (hk : va.ownBlock = some kk ∨ kk = wr.heap.size + 1) :
    PI w WA (.slice (some ⟨kk, 0, none⟩) (A.length + 1) cap1) vb (A ++ [q]) B := by
  refine ⟨by simpa [strs] using hr, ?_, ?_, ?_⟩
  · refine (h.rb.alloc o).kept hg ?_
    rcases hb : vb.ownBlock with _ | k
    · exact .inl rfl
    · refine .inr fun e => h.ne k e.symm (hb ▸ rfl)
  · intro k hk' e
    obtain rfl : kk = k := by simpa [Value.ownBlock] using hk'
    rcases hk with hk | hk
    · exact h.ne _ hk e
    · have := (ownBlock_lt h.rb e.symm).2
      omega
  · refine (h.blw.alloc h.blw.size o).grown hg (by have := h.blw.size; simp; omega) fun k hk => (ownBlock_lt h.ra hk).1

/-- What part answers. -/
def PartOut (l : List ByteArray) (x : Int) (w : World) (e : Ending) (w' : World) : Prop := ∃ va vb, e = .returned (.tuple #[va, vb]) ∧ PI w w' va vb (pA l x) (pB l x)

theorem take_pA {l : List ByteArray} {k : Nat} (h : k < l.length) (x : Int) : pA (l.take (k + 1)) x = pA (l.take k) x ++ hd1 (x - tot (l.take k)) (l.getD k ⟨#[]⟩) := by rw [take_snoc' h, pA_snoc]
theorem take_pB {l : List ByteArray} {k : Nat} (h : k < l.length) (x : Int) : pB (l.take (k + 1)) x = pB (l.take k) x ++ tl1 (x - tot (l.take k)) (l.getD k ⟨#[]⟩) := by rw [take_snoc' h, pB_snoc]

set_option maxRecDepth 20000 in
set_option maxHeartbeats 4000000 in
theorem ref_part (v : Value) (l : List ByteArray) (x : Int) (w : World) (h : Txs w v l) (ht : tot l ≤ 1000000000) (hl : l.length ≤ 1000000) (hf : ∀ p ∈ l, 0 < p.size) (hx0 : 0 ≤ x) (hx1 : x ≤ 1000000000) :
    Calls Try.prog 123 #[v, .int .i64 x] w (PartOut l x w) := by
  obtain ⟨i0, hi, hz0, hz1, hz2⟩ := info_parts (show (Try.prog.info? 9).map (fun i => (i.zero, i.size, i.bytes)) = some (some (.string ⟨#[]⟩), 1, 16) by kernel_rfl)
  obtain ⟨a, cap, rfl⟩ : ∃ a cap, v = .slice a l.length cap := by obtain ⟨a, cap, e, _⟩ := h; exact ⟨a, cap, e⟩
  have H := hide h
  have HT := hide ht
  have HF := hide hf
  clear h ht hf
  go_enter Try.func123, Try.ntmps123
  go_wp2_with fail
  go_loopw [1, 6, 7, 8] (fun at_ va vb i wr => ∃ k : Nat, i = .int .i64 (k : Int) ∧ k ≤ l.length ∧ at_ = .int .i64 (x - (tot (l.take k) : Int)) ∧ Hid (PI w wr va vb (pA (l.take k) x) (pB (l.take k) x))) (fun _ _ _ i _ => l.length - (intOf i).toNat)
  case atStart => exact ⟨0, rfl, by omega, by simp [tot], hide (by simpa [pA, pB] using PI.start w)⟩
  case round =>
    obtain ⟨k, rfl, hk, rfl, HI⟩ := hrel
    obtain ⟨aa, ma, ca, rfl⟩ := slice_of_row HI.out.ra
    obtain ⟨ab, mb, cb, rfl⟩ := slice_of_row HI.out.rb
    by_cases hlt : k < l.length
    · have hlt' : (k : Int) < (l.length : Int) := by omega
      obtain ⟨b, off, rfl, hlook⟩ := H.out.look hlt
      have hfp : 0 < (l.getD k ⟨#[]⟩).size := HF.out _ (by simp [List.getD, hlt])
      have e1 := take_snoc' hlt
      have hsz := tot_take_le l (k + 1)
      rw [e1, tot_append] at hsz
      have EA := hide (take_pA hlt x)
      have EB := hide (take_pB hlt x)
      have ET : Hid (tot (l.take (k + 1)) = tot (l.take k) + (l.getD k ⟨#[]⟩).size) := hide (by rw [e1, tot_append]; simp [tot])
      have la : (pA (l.take k) x).length ≤ 1000000 := by have := len_pA (l.take k) x; simp at this; omega
      have lb : (pB (l.take k) x).length ≤ 1000000 := by have := len_pB (l.take k) x; simp at this; omega
      clear e1
      generalize l.getD k ⟨#[]⟩ = p at *
      have hc := hlook _ HI.out.blw
      have HLK := hide hlook
      clear hlook
      have hp : tot [p] = p.size := by simp [tot]
      have hpz : p.size ≤ 1000000000 := by have := HT.out; omega
      have htk : tot (l.take k) ≤ 1000000000 := by have := HT.out; omega
      clear hsz hp
      have HW : Hid (∀ y : Int, y = x - (tot (l.take k) : Int) - (p.size : Int) → y = x - (tot (l.take (k + 1)) : Int)) := hide (fun y hy => by have := ET.out; omega)
      generalize hA : pA (l.take k) x = A at *
      generalize hB : pB (l.take k) x = B at *
      generalize hy : x - (tot (l.take k) : Int) = y at *
      have hy1 : y ≤ 1000000000 := by omega
      have hy2 : -1000000000 ≤ y := by omega
      clear hA hB hy
      have w0 : IntKind.i64.wrap (y - (p.size : Int)) = y - (p.size : Int) := by rw [IntKind.wrap_i64]; omega
      by_cases c1 : (p.size : Int) ≤ y
      · have eA : hd1 y p = [p] := by rw [hd1, if_pos (by omega), Nat.min_eq_right (by omega), extract_all]
        have eB : tl1 y p = [] := by rw [tl1, if_neg (by omega)]
        have mm : min (max y 0) (p.size : Int) = (p.size : Int) := by omega
        have i2 : (0 : Int) < (p.size : Int) := by omega
        have EA2 := hide (EA.out.trans (by rw [eA]))
        have EB2 := hide (EB.out.trans (by rw [eB, List.append_nil]))
        clear eA eB EA EB
        go_wp2_with (at_builtin; refine wpList_append_lies _ rfl _ _ 29 rfl w.heap.size 9 i0 (.string ⟨#[]⟩) 1 16 Try.underlying29 hi hz0 hz1 hz2 rfl (by decide) _ A.length (strs A) rfl (HI.out.ra.alloc _) ⟨_, 0, none⟩ 1 1 [.string p] rfl rfl (cell_one_new _ _ _) (by simp [Value.oneCell']) (by omega) (by unfold maxLen; omega) (by omega) (by have := HI.out.blw.size; simp; omega) (wr.heap.size + 1) (by simp) ?_; intro kk cap1 WA hr' hgr hkk hltA; have HP := hide (HI.out.add hr' hgr hkk); have hcA := HLK.out _ HP.out.blw; clear hr' hgr hkk hltA)
        go_roundw
        case rel => exact ⟨k + 1, by go_num, by omega, by rw [HW.out _ rfl], by rw [EA2.out, EB2.out]; exact HP⟩
        case measure => simp [intOf]; omega
      · by_cases c2 : 0 < y
        · obtain ⟨n, rfl⟩ : ∃ n : Nat, y = n := ⟨y.toNat, by omega⟩
          have eA : hd1 n p = [p.extract 0 n] := by rw [hd1, if_pos (by omega), Int.toNat_natCast, Nat.min_eq_left (by omega)]
          have eB : tl1 n p = [p.extract n p.size] := by rw [tl1, if_pos (by omega), Int.toNat_natCast]
          have mm : min (n : Int) (p.size : Int) = (n : Int) := by omega
          have i2 : (n : Int) < (p.size : Int) := by omega
          have i3 : n < p.size := by omega
          have i4 : n ≤ p.size := by omega
          have EA2 := hide (EA.out.trans (by rw [eA]))
          have EB2 := hide (EB.out.trans (by rw [eB]))
          clear eA eB EA EB c1
          go_wp2_with (first
            | (at_builtin; refine wpList_append_lies _ rfl _ _ 29 rfl w.heap.size 9 i0 (.string ⟨#[]⟩) 1 16 Try.underlying29 hi hz0 hz1 hz2 rfl (by decide) _ A.length (strs A) rfl (HI.out.ra.alloc _) ⟨_, 0, none⟩ 1 1 [.string (p.extract 0 n)] rfl rfl (cell_one_new _ _ _) (by simp [Value.oneCell']) (by omega) (by unfold maxLen; omega) (by omega) (by have := HI.out.blw.size; simp; omega) (wr.heap.size + 1) (by simp) ?_; intro kk cap1 WA hr' hgr hkk hltA; have HP := hide (HI.out.add hr' hgr hkk); have hcA := HLK.out _ HP.out.blw; clear HI; clear hr' hgr hkk hltA)
            | (at_builtin; refine wpList_append_lies _ rfl _ _ 29 rfl w.heap.size 9 i0 (.string ⟨#[]⟩) 1 16 Try.underlying29 hi hz0 hz1 hz2 rfl (by decide) _ B.length (strs B) rfl (HP.out.rb.alloc _) ⟨_, 0, none⟩ 1 1 [.string (p.extract n p.size)] rfl rfl (cell_one_new _ _ _) (by simp [Value.oneCell']) (by omega) (by unfold maxLen; omega) (by omega) (by have := HP.out.blw.size; simp; omega) (WA.heap.size + 1) (by simp) ?_; intro k2 cap2 WB hr' hgr hkk hltA; have HQ := hide (HP.out.symm.add hr' hgr hkk).symm; have hcB := HLK.out _ HQ.out.blw; clear hr' hgr hkk hltA))
          go_roundw
          case rel => exact ⟨k + 1, by go_num, by omega, by rw [HW.out _ rfl], by rw [EA2.out, EB2.out]; exact HQ⟩
          case measure => simp [intOf]; omega
        · have eA : hd1 y p = [] := by rw [hd1, if_neg c2]
          have eB : tl1 y p = [p] := by rw [tl1, if_pos (by omega), show y.toNat = 0 by omega, extract_all]
          have mm : min (max y 0) (p.size : Int) = 0 := by omega
          have i2 : (0 : Int) < (p.size : Int) := by omega
          have EA2 := hide (EA.out.trans (by rw [eA, List.append_nil]))
          have EB2 := hide (EB.out.trans (by rw [eB]))
          clear eA eB EA EB
          go_wp2_with (at_builtin; refine wpList_append_lies _ rfl _ _ 29 rfl w.heap.size 9 i0 (.string ⟨#[]⟩) 1 16 Try.underlying29 hi hz0 hz1 hz2 rfl (by decide) _ B.length (strs B) rfl (HI.out.rb.alloc _) ⟨_, 0, none⟩ 1 1 [.string p] rfl rfl (cell_one_new _ _ _) (by simp [Value.oneCell']) (by omega) (by unfold maxLen; omega) (by omega) (by have := HI.out.blw.size; simp; omega) (wr.heap.size + 1) (by simp) ?_; intro kk cap1 WA hr' hgr hkk hltA; have HP := hide (HI.out.symm.add hr' hgr hkk).symm; have hcA := HLK.out _ HP.out.blw; clear hr' hgr hkk hltA)
          go_roundw
          case rel => exact ⟨k + 1, by go_num, by omega, by rw [HW.out _ rfl], by rw [EA2.out, EB2.out]; exact HP⟩
          case measure => simp [intOf]; omega
    · obtain rfl : k = l.length := by omega
      go_wp2
      go_ret2
      exact ⟨_, _, rfl, by have := HI.out; rwa [List.take_length] at this⟩

end Go.Proofs.Ytpmijaplkbmbiaa

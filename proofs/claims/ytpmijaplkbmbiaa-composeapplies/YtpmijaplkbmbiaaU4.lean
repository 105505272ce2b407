/- The edit between two texts: how many bytes are the same at both ends. -/
import Derived.Test.YtpmijaplkbmbiaaUB
namespace Go.Proofs.Ytpmijaplkbmbiaa.E
open Go.Proofs.Ytpmijaplkbmbiaa Go.RowKit Go.By Go.Shelf
set_option linter.unusedVariables false
set_option linter.unusedSimpArgs false

theorem byte_eq {a b : ByteArray} {i j : Nat} (hi : i < a.size) (hj : j < b.size) : ((a[i].toNat : Int) == (b[j].toNat : Int)) = (a.data.toList.getD i 0 == b.data.toList.getD j 0) := by
  have key : ∀ (c : ByteArray) (k : Nat) (hk : k < c.size), c.data.toList.getD k 0 = c[k] := fun c k hk => by
    have : c.data.toList[k]? = some c[k] := by rw [Array.getElem?_toList, Array.getElem?_eq_getElem hk]; rfl
    rw [List.getD_eq_getElem?_getD, this]; rfl
  have e1 := key a i hi
  have e2 := key b j hj
  rw [e1, e2]
  apply Bool.eq_iff_iff.2
  rw [beq_iff_eq, beq_iff_eq]
  constructor
  · intro h
    exact UInt8.toNat_inj.1 (by omega)
  · intro h
    rw [h]

set_option maxRecDepth 20000 in
set_option maxHeartbeats 2000000 in
theorem same1 (b1 b2 i : Nat) (a b : ByteArray) (W : World) (h1 : W.cell? ⟨b1, 0, none⟩ = some (.string a)) (h2 : W.cell? ⟨b2, 0, none⟩ = some (.string b)) (hi : i < a.size) (hj : i < b.size) :
    Calls Try.prog 115 #[.int .i64 (i : Int), .pointer (some ⟨b1, 0, none⟩), .pointer (some ⟨b2, 0, none⟩)] W fun e W' => e = .returned (.bool (a.data.toList.getD i 0 == b.data.toList.getD i 0)) ∧ Below W.heap.size W W' := by
  have hi' : (i : Int) < (a.size : Int) := by omega
  have hj' : (i : Int) < (b.size : Int) := by omega
  have HE := hide (byte_eq hi hj)
  go_enter Try.func115, Try.ntmps115
  go_wp2_with fail
  go_quiet (fail)
  go_wp2
  go_ret
  exact ⟨congrArg (fun x => Ending.returned (Value.bool x)) HE.out, ⟨rfl, rfl, rfl, Nat.le_refl _, fun _ _ => rfl⟩⟩

set_option maxRecDepth 20000 in
set_option maxHeartbeats 2000000 in
theorem same2 (b1 b2 i : Nat) (a b : ByteArray) (W : World) (h1 : W.cell? ⟨b1, 0, none⟩ = some (.string a)) (h2 : W.cell? ⟨b2, 0, none⟩ = some (.string b)) (hi : i < a.size) (hj : i < b.size) (ha : a.size ≤ 16777216) (hb : b.size ≤ 16777216) :
    Calls Try.prog 116 #[.int .i64 (i : Int), .pointer (some ⟨b1, 0, none⟩), .pointer (some ⟨b2, 0, none⟩)] W fun e W' => e = .returned (.bool (a.data.toList.getD (a.data.toList.length - 1 - i) 0 == b.data.toList.getD (b.data.toList.length - 1 - i) 0)) ∧ Below W.heap.size W W' := by
  obtain ⟨x, hx⟩ : ∃ x, x = a.size - 1 - i := ⟨_, rfl⟩
  obtain ⟨y, hy⟩ : ∃ y, y = b.size - 1 - i := ⟨_, rfl⟩
  have i1 : x < a.size := by omega
  have i2 : y < b.size := by omega
  have HE := hide (byte_eq i1 i2)
  have hla : a.data.toList.length = a.size := by rw [Array.length_toList]; rfl
  have hlb : b.data.toList.length = b.size := by rw [Array.length_toList]; rfl
  rw [hla, hlb, ← hx, ← hy]
  have w1 : IntKind.i64.wrap ((a.size : Int) - 1) = (a.size : Int) - 1 := by rw [IntKind.wrap_i64]; omega
  have w2 : IntKind.i64.wrap ((a.size : Int) - 1 - (i : Int)) = (x : Int) := by rw [IntKind.wrap_i64]; omega
  have w3 : IntKind.i64.wrap ((b.size : Int) - 1) = (b.size : Int) - 1 := by rw [IntKind.wrap_i64]; omega
  have w4 : IntKind.i64.wrap ((b.size : Int) - 1 - (i : Int)) = (y : Int) := by rw [IntKind.wrap_i64]; omega
  have i3 : (x : Int) < (a.size : Int) := by omega
  have i4 : (y : Int) < (b.size : Int) := by omega
  clear hla hlb hi hj hx hy
  go_enter Try.func116, Try.ntmps116
  go_wp2_with fail
  go_quiet (fail)
  go_wp2
  go_ret
  exact ⟨congrArg (fun x => Ending.returned (Value.bool x)) HE.out, ⟨rfl, rfl, rfl, Nat.le_refl _, fun _ _ => rfl⟩⟩

set_option maxRecDepth 20000 in
set_option maxHeartbeats 4000000 in
theorem count1 (n b1 b2 : Nat) (p : Nat → Bool) (W : World) (hn : n ≤ 16777216)
    (hf : ∀ i W', i < n → Below W.heap.size W W' → Calls Try.prog 115 #[.int .i64 (i : Int), .pointer (some ⟨b1, 0, none⟩), .pointer (some ⟨b2, 0, none⟩)] W' fun e W'' => e = .returned (.bool (p i)) ∧ Below W'.heap.size W' W'') :
    Calls Try.prog 114 #[.int .i64 (n : Int), .func (.func 115) #[] #[.pointer (some ⟨b1, 0, none⟩), .pointer (some ⟨b2, 0, none⟩)]] W fun e W' => e = .returned (.int .i64 ((cnt n p : Nat) : Int)) ∧ Below W.heap.size W W' := by
  have HF := hide hf
  clear hf
  go_enter Try.func114, Try.ntmps114
  go_wp2_with fail
  go_loopw [7] (fun i wr => ∃ k : Nat, k ≤ n ∧ i = .int .i64 (k : Int) ∧ Hid ((∀ j, j < k → p j = true) ∧ Below W.heap.size W wr)) (fun i _ => n - (intOf i).toNat)
  case atStart => exact ⟨0, Nat.zero_le _, rfl, hide ⟨fun j hj => by omega, Below.refl _ _⟩⟩
  case round =>
    obtain ⟨k, hk, rfl, HI⟩ := hrel
    by_cases hlt : k < n
    · have hlt' : (k : Int) < (n : Int) := by omega
      have hc := HF.out k wr hlt HI.out.2
      have w6 : IntKind.i64.wrap ((k : Int) + 1) = (k : Int) + 1 := by rw [IntKind.wrap_i64]; omega
      cases hp : p k with
      | true =>
        rw [hp] at hc
        have HP := hide hp
        clear hp
        go_wp2_with (go_at_call 115; refine hc.mono ?_; rintro e W2 ⟨rfl, hb⟩; have HB := hide hb; clear hb)
        go_roundw
        case rel => exact ⟨k + 1, by omega, by go_num, hide ⟨fun j hj => by
          rcases Nat.lt_or_ge j k with h | h
          · exact HI.out.1 j h
          · obtain rfl : j = k := by omega
            exact HP.out, HI.out.2.trans (HB.out.mono HI.out.2.size)⟩⟩
        case measure => simp [intOf]; omega
      | false =>
        rw [hp] at hc
        have HP := hide hp
        clear hp
        go_wp2_with (go_at_call 115; refine hc.mono ?_; rintro e W2 ⟨rfl, hb⟩; have HB := hide hb; clear hb)
        go_ret
        exact ⟨congrArg (fun x : Nat => Ending.returned (Value.int .i64 (x : Int))) (cnt_eq ⟨hk, HI.out.1, .inr HP.out⟩), HI.out.2.trans (HB.out.mono HI.out.2.size)⟩
    · obtain rfl : k = n := by omega
      go_wp2
      go_ret
      exact ⟨congrArg (fun x : Nat => Ending.returned (Value.int .i64 (x : Int))) (cnt_eq ⟨Nat.le_refl _, HI.out.1, .inl rfl⟩), HI.out.2⟩

set_option maxRecDepth 20000 in
set_option maxHeartbeats 4000000 in
theorem count2 (n b1 b2 : Nat) (p : Nat → Bool) (W : World) (hn : n ≤ 16777216)
    (hf : ∀ i W', i < n → Below W.heap.size W W' → Calls Try.prog 116 #[.int .i64 (i : Int), .pointer (some ⟨b1, 0, none⟩), .pointer (some ⟨b2, 0, none⟩)] W' fun e W'' => e = .returned (.bool (p i)) ∧ Below W'.heap.size W' W'') :
    Calls Try.prog 114 #[.int .i64 (n : Int), .func (.func 116) #[] #[.pointer (some ⟨b1, 0, none⟩), .pointer (some ⟨b2, 0, none⟩)]] W fun e W' => e = .returned (.int .i64 ((cnt n p : Nat) : Int)) ∧ Below W.heap.size W W' := by
  have HF := hide hf
  clear hf
  go_enter Try.func114, Try.ntmps114
  go_wp2_with fail
  go_loopw [7] (fun i wr => ∃ k : Nat, k ≤ n ∧ i = .int .i64 (k : Int) ∧ Hid ((∀ j, j < k → p j = true) ∧ Below W.heap.size W wr)) (fun i _ => n - (intOf i).toNat)
  case atStart => exact ⟨0, Nat.zero_le _, rfl, hide ⟨fun j hj => by omega, Below.refl _ _⟩⟩
  case round =>
    obtain ⟨k, hk, rfl, HI⟩ := hrel
    by_cases hlt : k < n
    · have hlt' : (k : Int) < (n : Int) := by omega
      have hc := HF.out k wr hlt HI.out.2
      have w6 : IntKind.i64.wrap ((k : Int) + 1) = (k : Int) + 1 := by rw [IntKind.wrap_i64]; omega
      cases hp : p k with
      | true =>
        rw [hp] at hc
        have HP := hide hp
        clear hp
        go_wp2_with (go_at_call 116; refine hc.mono ?_; rintro e W2 ⟨rfl, hb⟩; have HB := hide hb; clear hb)
        go_roundw
        case rel => exact ⟨k + 1, by omega, by go_num, hide ⟨fun j hj => by
          rcases Nat.lt_or_ge j k with h | h
          · exact HI.out.1 j h
          · obtain rfl : j = k := by omega
            exact HP.out, HI.out.2.trans (HB.out.mono HI.out.2.size)⟩⟩
        case measure => simp [intOf]; omega
      | false =>
        rw [hp] at hc
        have HP := hide hp
        clear hp
        go_wp2_with (go_at_call 116; refine hc.mono ?_; rintro e W2 ⟨rfl, hb⟩; have HB := hide hb; clear hb)
        go_ret
        exact ⟨congrArg (fun x : Nat => Ending.returned (Value.int .i64 (x : Int))) (cnt_eq ⟨hk, HI.out.1, .inr HP.out⟩), HI.out.2.trans (HB.out.mono HI.out.2.size)⟩
    · obtain rfl : k = n := by omega
      go_wp2
      go_ret
      exact ⟨congrArg (fun x : Nat => Ending.returned (Value.int .i64 (x : Int))) (cnt_eq ⟨Nat.le_refl _, HI.out.1, .inl rfl⟩), HI.out.2⟩

end Go.Proofs.Ytpmijaplkbmbiaa.E

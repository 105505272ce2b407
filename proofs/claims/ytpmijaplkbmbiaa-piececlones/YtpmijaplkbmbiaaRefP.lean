/- The document's list of pieces: what it is in memory, and its ways. -/
import Derived.Test.YtpmijaplkbmbiaaByte
namespace Go.Proofs.Ytpmijaplkbmbiaa
open Go.RowKit Go.By Go.Shelf
set_option linter.unusedVariables false

/-- The value v is a slice of the texts l. -/
def Txs (w : World) (v : Value) (l : List ByteArray) : Prop :=
  ∃ a cap, v = .slice a l.length cap ∧ l.length ≤ cap ∧ cap ≤ maxLen ∧ (a = none → cap = 0) ∧
    ∀ x, a = some x → ∃ b off, x = ⟨b, off, none⟩ ∧ b < w.heap.size ∧ ∀ i, i < l.length → w.cell? ⟨b, off + i, none⟩ = some (.string (l.getD i ⟨#[]⟩))

theorem Txs.nil (w : World) : Txs w (.slice none 0 0) [] := ⟨none, 0, rfl, by simp, by unfold maxLen; omega, fun _ => rfl, by simp⟩

theorem Txs.same {w w' : World} {v : Value} {l : List ByteArray} (h : Txs w v l) (hsz : w.heap.size ≤ w'.heap.size) (hs : ∀ k, v.ownBlock = some k → w'.heap[k]? = w.heap[k]?) : Txs w' v l := by
  obtain ⟨a, cap, rfl, h1, h2, h3, h4⟩ := h
  refine ⟨a, cap, rfl, h1, h2, h3, fun x hx => ?_⟩
  obtain ⟨b, off, rfl, hb, hc⟩ := h4 x hx
  subst hx
  exact ⟨b, off, rfl, by omega, fun i hi => (World.cell?_of_block (a := ⟨b, off + i, none⟩) (hs b rfl)).trans (hc i hi)⟩

theorem Txs.lt {w : World} {v : Value} {l : List ByteArray} (h : Txs w v l) : ∀ k, v.ownBlock = some k → k < w.heap.size := by
  obtain ⟨a, cap, rfl, h1, h2, h3, h4⟩ := h
  intro k hk
  cases a with
  | none => cases hk
  | some x =>
    obtain ⟨b, off, rfl, hb, hc⟩ := h4 x rfl
    obtain rfl : b = k := by simpa [Value.ownBlock] using hk
    exact hb

theorem Txs.below {w w' : World} {v : Value} {l : List ByteArray} (h : Txs w v l) (hb : Below w.heap.size w w') : Txs w' v l :=
  h.same hb.size fun k hk => hb.block k (h.lt k hk)

theorem txs_of_row {w : World} {B : Nat} {v : Value} {l : List ByteArray} (h : w.ownsRow B 9 1 v l.length (strs l)) : Txs w v l := by
  rcases h.2 with ⟨rfl, h0⟩ | ⟨k, cap, cur, rfl, hb, hh, hn, hm, hs, ht⟩
  · have hx : l = [] := List.length_eq_zero_iff.1 h0
    subst hx
    exact Txs.nil w
  · refine ⟨_, cap, rfl, hn, hm, by simp, fun x hx => ?_⟩
    cases hx
    refine ⟨k, 0, rfl, lt_of_heap hh, fun i hi => ?_⟩
    rw [Nat.zero_add, Joins.cell_of_block hh]
    have e1 : cur[i]? = (cur.toList.take (l.length * 1))[i]? := by rw [List.getElem?_take_of_lt (by omega)]; simp
    rw [e1, ht]
    simp [strs, List.getD, hi]

/-- What an append takes over. -/
theorem Txs.news {w : World} {a : Option Addr} {n cap : Nat} {l : List ByteArray} (h : Txs w (.slice a n cap) l) : n = l.length ∧ ∀ x, a = some x → ∀ j u, (strs l)[j]? = some u → w.cell? (x.add j) = some u := by
  obtain ⟨a', cap', e, h1, h2, h3, h4⟩ := h
  cases e
  refine ⟨rfl, fun x hx j u hu => ?_⟩
  obtain ⟨b, off, rfl, hb, hc⟩ := h4 x hx
  have hlt : j < l.length := by
    rcases Nat.lt_or_ge j l.length with h | h
    · exact h
    · simp [strs, h] at hu
  rw [Addr.add_lit, hc j hlt]
  simp [strs, hlt] at hu
  simp [List.getD, hlt, hu]

/-- The cell of the k-th text. -/
theorem Txs.get {w : World} {a : Option Addr} {n cap k : Nat} {l : List ByteArray} (h : Txs w (.slice a n cap) l) (hk : k < l.length) : ∃ b off, a = some ⟨b, off, none⟩ ∧ w.cell? ⟨b, off + k, none⟩ = some (.string (l.getD k ⟨#[]⟩)) := by
  obtain ⟨a', cap', e, h1, h2, h3, h4⟩ := h
  cases e
  cases a with
  | none => have := h3 rfl; omega
  | some x =>
    obtain ⟨b, off, rfl, hb, hc⟩ := h4 x rfl
    exact ⟨b, off, rfl, hc k hk⟩

/-- The cell of the k-th text, also later. -/
theorem Txs.look {w : World} {a : Option Addr} {n cap k : Nat} {l : List ByteArray} (h : Txs w (.slice a n cap) l) (hk : k < l.length) : ∃ b off, a = some ⟨b, off, none⟩ ∧ ∀ w', Below w.heap.size w w' → w'.cell? ⟨b, off + k, none⟩ = some (.string (l.getD k ⟨#[]⟩)) := by
  obtain ⟨a', cap', e, h1, h2, h3, h4⟩ := h
  cases e
  cases a with
  | none => have := h3 rfl; omega
  | some x =>
    obtain ⟨b, off, rfl, hb, hc⟩ := h4 x rfl
    exact ⟨b, off, rfl, fun w' hw => (hw.cell (p := ⟨b, off + k, none⟩) hb).trans (hc k hk)⟩

theorem str_snoc (l : List ByteArray) (p : ByteArray) : str (l ++ [p]) = str l ++ p := by
  apply ByteArray.ext
  apply Array.toList_inj.1
  unfold str
  rw [text_append, text_one]
  simp

theorem take_snoc' {l : List ByteArray} {k : Nat} (h : k < l.length) : l.take (k + 1) = l.take k ++ [l.getD k ⟨#[]⟩] := by
  rw [List.take_succ_eq_append_getElem h]; simp [List.getD, h]

set_option maxRecDepth 20000 in
set_option maxHeartbeats 2000000 in
theorem ref_text (v : Value) (l : List ByteArray) (w : World) (h : Txs w v l) (ht : tot l ≤ 1000000000) :
    Calls Try.prog 87 #[v] w fun e w' => e = .returned (.string (str l)) ∧ w' = w := by
  obtain ⟨a, cap, rfl⟩ : ∃ a cap, v = .slice a l.length cap := by obtain ⟨a, cap, e, _⟩ := h; exact ⟨a, cap, e⟩
  have hlm : l.length ≤ 9223372036854775807 := by obtain ⟨_, _, e, h1, h2, _⟩ := h; unfold maxLen at h2; omega
  have H := hide h
  have HT := hide ht
  clear h ht
  go_enter Try.func87, Try.ntmps87
  go_wp2_with fail
  go_loop [3, 4] (fun s i => ∃ k : Nat, i = .int .i64 (k : Int) ∧ k ≤ l.length ∧ s = .string (str (l.take k))) (fun _ i => l.length - (intOf i).toNat)
  case atStart => exact ⟨0, rfl, by omega, by simp [str, text]⟩
  case round =>
    obtain ⟨k, rfl, hk, rfl⟩ := hrel
    by_cases hlt : k < l.length
    · have hlt' : (k : Int) < (l.length : Int) := by omega
      obtain ⟨b, off, rfl, hc⟩ := H.out.get hlt
      have e1 := take_snoc' hlt
      have hsz := tot_take_le l (k + 1)
      rw [e1, tot_append] at hsz
      have hs1 := size_str (l.take k)
      have E1 := hide e1
      clear e1
      generalize l.getD k ⟨#[]⟩ = p at *
      have hp : tot [p] = p.size := by simp [tot]
      have hsum : ¬ 9223372036854775807 < (str (l.take k)).size + p.size := by have := HT.out; omega
      clear hsz hs1 hp
      go_wp2
      go_round
      case rel => exact ⟨k + 1, by go_num, by omega, by rw [E1.out, str_snoc]⟩
      case measure => simp [intOf]; omega
    · obtain rfl : k = l.length := by omega
      go_wp2
      go_ret
      exact ⟨rfl, rfl⟩

end Go.Proofs.Ytpmijaplkbmbiaa

import Derived.Test.YtleenphlgbklmaaGreatDoorQRefGood
set_option linter.unusedVariables false
set_option linter.unusedSimpArgs false
namespace Go.Proofs.YtleenphlgbklmaaGreatDoor
open Go.RowKit

theorem sum_take (names : List ByteArray) (q : Nat) : ((names.take q).map fun s => s.size + 16).sum ≤ (names.map fun s => s.size + 16).sum := by
  induction names generalizing q with
  | nil => simp
  | cons n ns ih =>
    cases q with
    | zero => simp
    | succ q => simp only [List.take_succ_cons, List.map_cons, List.sum_cons]; have := ih q; omega
theorem sum_take_succ (names : List ByteArray) (q : Nat) (h : q < names.length) : ((names.take (q + 1)).map fun s => s.size + 16).sum = ((names.take q).map fun s => s.size + 16).sum + ((names.getD q { data := #[] }).size + 16) := by
  rw [List.take_succ_eq_append_getElem h, List.map_append, List.sum_append, List.map_cons, List.map_nil, List.sum_cons, List.sum_nil]
  simp only [List.getD, List.getElem?_eq_getElem h, Option.getD_some, Nat.add_zero]
theorem tws_take (xs : List X) (q : Nat) : tws (xs.take q) ≤ tws xs := by
  induction xs generalizing q with
  | nil => simp
  | cons n ns ih =>
    cases q with
    | zero => simp [tws]
    | succ q => simp only [List.take_succ_cons, tws]; have := ih q; omega
theorem tws_append (xs : List X) (y : X) : tws (xs ++ [y]) = tws xs + (tw y + 16) := by
  induction xs with
  | nil => simp [tws]
  | cons x xs ih => simp only [List.cons_append, tws, ih]; omega
theorem tws_take_succ (xs : List X) (q : Nat) (h : q < xs.length) : tws (xs.take (q + 1)) = tws (xs.take q) + (tw (xs.getD q X.none) + 16) := by
  rw [List.take_succ_eq_append_getElem h, tws_append]
  simp [List.getD, h]
theorem getD_mem {xs : List X} {q : Nat} (h : q < xs.length) : xs.getD q X.none ∈ xs := by simp [List.getD, h]

theorem letT_size (s0 : ByteArray) (names : List ByteArray) (kids : List X) (ih : ∀ y, y ∈ kids → (txt y).size ≤ tw y) (q : Nat) (h1 : q ≤ names.length) (h2 : q ≤ kids.length) :
    (letT s0 names (txts kids) q).size ≤ s0.size + ((names.take q).map fun s => s.size + 16).sum + tws (kids.take q) := by
  induction q with
  | zero => simp [letT]
  | succ q ihq =>
    have i1 := ihq (by omega) (by omega)
    rw [letT, sum_take_succ names q (by omega), tws_take_succ kids q (by omega), txts_get kids q (by omega)]
    have i2 := ih _ (getD_mem (xs := kids) (q := q) (by omega))
    have a1 : ({ data := #[32, 97, 110, 100, 32] } : ByteArray).size = 5 := rfl
    have a2 : ({ data := #[32, 61, 32] } : ByteArray).size = 3 := rfl
    split
    · simp only [ByteArray.size_append, a1, a2]; omega
    · simp only [ByteArray.size_append, a2]; omega
theorem brk_size (b : Bool) (s : ByteArray) : (brk b s).size ≤ s.size + 2 := by
  unfold brk
  have a1 : ({ data := #[40] } : ByteArray).size = 1 := rfl
  have a2 : ({ data := #[41] } : ByteArray).size = 1 := rfl
  split
  · simp only [ByteArray.size_append, a1, a2]; omega
  · omega

theorem txt_size (x : X) : WF x → (txt x).size ≤ tw x := by
  induction x using X.ind with
  | h op names kids loc ih =>
    intro h
    cases h with
    | leaf _ n _ h =>
      rcases h with rfl | rfl <;> simp [txt, txts, tw, tws] <;> omega
    | fn n a _ ha =>
      have := ih a (by simp) ha
      simp [txt, txts, tw, tws]
      have a1 : ({ data := #[102, 117, 110, 32] } : ByteArray).size = 4 := rfl
      have a2 : ({ data := #[32, 45, 62, 32] } : ByteArray).size = 4 := rfl
      omega
    | pair a b _ ha hb =>
      have h1 := ih a (by simp) ha
      have h2 := ih b (by simp) hb
      simp [txt, txts, tw, tws]
      have a1 : ({ data := #[40] } : ByteArray).size = 1 := rfl
      have a2 : ({ data := #[44, 32] } : ByteArray).size = 2 := rfl
      have a3 : ({ data := #[41] } : ByteArray).size = 1 := rfl
      omega
    | ite a b c _ ha hb hc =>
      have h1 := ih a (by simp) ha
      have h2 := ih b (by simp) hb
      have h3 := ih c (by simp) hc
      simp [txt, txts, tw, tws]
      have a1 : ({ data := #[105, 102, 32] } : ByteArray).size = 3 := rfl
      have a2 : ({ data := #[32, 116, 104, 101, 110, 32] } : ByteArray).size = 6 := rfl
      have a3 : ({ data := #[32, 101, 108, 115, 101, 32] } : ByteArray).size = 6 := rfl
      omega
    | app a b _ ha hb =>
      have h1 := ih a (by simp) ha
      have h2 := ih b (by simp) hb
      have b1 := brk_size (needsF a.op) (txt a)
      have b2 := brk_size (needsA b.op) (txt b)
      simp [txt, txts, tw, tws]
      have a1 : ({ data := #[32] } : ByteArray).size = 1 := rfl
      omega
    | lt _ _ _ _ h hl h1 hk =>
      have i1 : ∀ y, y ∈ kids → (txt y).size ≤ tw y := fun y hy => ih y hy (hk y hy)
      have i2 := i1 _ (getD_mem (xs := kids) (q := names.length) (by omega))
      have e2 := txts_get kids names.length (by omega)
      have e3 := tws_take_succ kids names.length (by omega)
      have e4 := tws_take kids (names.length + 1)
      have e5 := sum_take names names.length
      have a1 : ({ data := #[32, 105, 110, 32] } : ByteArray).size = 4 := rfl
      have a2 : ({ data := #[108, 101, 116, 32] } : ByteArray).size = 4 := rfl
      have a3 : ({ data := #[114, 101, 99, 32] } : ByteArray).size = 4 := rfl
      rcases h with rfl | rfl
      · have l1 := letT_size { data := #[108, 101, 116, 32] } names kids i1 names.length (by omega) (by omega)
        simp only [txt, tw, if_true, show ¬ (({ data := #[108, 101, 116] } : ByteArray) = { data := #[102, 117, 110] }) from by decide, show ¬ (({ data := #[108, 101, 116] } : ByteArray) = { data := #[112, 97, 105, 114] }) from by decide, show ¬ (({ data := #[108, 101, 116] } : ByteArray) = { data := #[105, 102] }) from by decide, show ¬ (({ data := #[108, 101, 116] } : ByteArray) = { data := #[97, 112, 112] }) from by decide, if_false, e2, ByteArray.size_append, a1]
        omega
      · have l1 := letT_size ({ data := #[108, 101, 116, 32] } ++ { data := #[114, 101, 99, 32] }) names kids i1 names.length (by omega) (by omega)
        simp only [ByteArray.size_append, a2, a3] at l1
        simp only [txt, tw, if_true, show ¬ (({ data := #[114, 101, 99] } : ByteArray) = { data := #[102, 117, 110] }) from by decide, show ¬ (({ data := #[114, 101, 99] } : ByteArray) = { data := #[112, 97, 105, 114] }) from by decide, show ¬ (({ data := #[114, 101, 99] } : ByteArray) = { data := #[105, 102] }) from by decide, show ¬ (({ data := #[114, 101, 99] } : ByteArray) = { data := #[97, 112, 112] }) from by decide, show ¬ (({ data := #[114, 101, 99] } : ByteArray) = { data := #[108, 101, 116] }) from by decide, if_false, e2, ByteArray.size_append, a1]
        omega
end Go.Proofs.YtleenphlgbklmaaGreatDoor

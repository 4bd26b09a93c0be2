import Derived.Test.YtleenphlgbklmabGreatDoorZWDeep
import Derived.Deep.RegionHeld3
import Derived.Test.YtleenphlgbklmabGreatDoorZTree
import Derived.Deep.DeepCutAuto
import Derived.Deep.LoopGhost
set_option linter.unusedVariables false
set_option linter.unusedSimpArgs false
namespace Go.Proofs.YtleenphlgbklmabGreatDoor
open Go.RowKit

def needsF (o : ByteArray) : Bool := o.data.toList == ({ data := #[102, 117, 110] } : ByteArray).data.toList || o.data.toList == ({ data := #[105, 102] } : ByteArray).data.toList || o.data.toList == ({ data := #[108, 101, 116] } : ByteArray).data.toList || o.data.toList == ({ data := #[114, 101, 99] } : ByteArray).data.toList
def needsA (o : ByteArray) : Bool := !(o.data.toList == ({ data := #[110, 97, 109, 101] } : ByteArray).data.toList) && !(o.data.toList == ({ data := #[110, 117, 109] } : ByteArray).data.toList) && !(o.data.toList == ({ data := #[112, 97, 105, 114] } : ByteArray).data.toList)
def brk (b : Bool) (s : ByteArray) : ByteArray := if b then { data := #[40] } ++ s ++ { data := #[41] } else s
/-- what stands behind so many bindings. -/
def letT (s0 : ByteArray) (names ts : List ByteArray) : Nat → ByteArray
  | 0 => s0
  | q + 1 => (if 0 < q then letT s0 names ts q ++ { data := #[32, 97, 110, 100, 32] } else letT s0 names ts q) ++ (names.getD q { data := #[] } ++ { data := #[32, 61, 32] } ++ ts.getD q { data := #[] })

mutual
/-- the one text of an expression. -/
def txt : X → ByteArray
  | .mk op names kids _ =>
    if op = { data := #[102, 117, 110] } then { data := #[102, 117, 110, 32] } ++ names.getD 0 { data := #[] } ++ { data := #[32, 45, 62, 32] } ++ (txts kids).getD 0 { data := #[] }
    else if op = { data := #[112, 97, 105, 114] } then { data := #[40] } ++ (txts kids).getD 0 { data := #[] } ++ { data := #[44, 32] } ++ (txts kids).getD 1 { data := #[] } ++ { data := #[41] }
    else if op = { data := #[105, 102] } then { data := #[105, 102, 32] } ++ (txts kids).getD 0 { data := #[] } ++ { data := #[32, 116, 104, 101, 110, 32] } ++ (txts kids).getD 1 { data := #[] } ++ { data := #[32, 101, 108, 115, 101, 32] } ++ (txts kids).getD 2 { data := #[] }
    else if op = { data := #[97, 112, 112] } then brk (needsF (kids.getD 0 X.none).op) ((txts kids).getD 0 { data := #[] }) ++ { data := #[32] } ++ brk (needsA (kids.getD 1 X.none).op) ((txts kids).getD 1 { data := #[] })
    else if op = { data := #[108, 101, 116] } then letT { data := #[108, 101, 116, 32] } names (txts kids) names.length ++ { data := #[32, 105, 110, 32] } ++ (txts kids).getD names.length { data := #[] }
    else if op = { data := #[114, 101, 99] } then letT ({ data := #[108, 101, 116, 32] } ++ { data := #[114, 101, 99, 32] }) names (txts kids) names.length ++ { data := #[32, 105, 110, 32] } ++ (txts kids).getD names.length { data := #[] }
    else names.getD 0 { data := #[] }
def txts : List X → List ByteArray
  | [] => []
  | x :: xs => txt x :: txts xs
end
/-- an expression as the grammar makes it. -/
inductive WF : X → Prop
  | leaf (op n : ByteArray) (loc : Nat) (h : op = { data := #[110, 97, 109, 101] } ∨ op = { data := #[110, 117, 109] }) : WF (.mk op [n] [] loc)
  | fn (n : ByteArray) (a : X) (loc : Nat) : WF a → WF (.mk { data := #[102, 117, 110] } [n] [a] loc)
  | pair (a b : X) (loc : Nat) : WF a → WF b → WF (.mk { data := #[112, 97, 105, 114] } [] [a, b] loc)
  | ite (a b c : X) (loc : Nat) : WF a → WF b → WF c → WF (.mk { data := #[105, 102] } [] [a, b, c] loc)
  | app (a b : X) (loc : Nat) : WF a → WF b → WF (.mk { data := #[97, 112, 112] } [] [a, b] loc)
  | lt (op : ByteArray) (names : List ByteArray) (kids : List X) (loc : Nat) (h : op = { data := #[108, 101, 116] } ∨ op = { data := #[114, 101, 99] }) (hl : kids.length = names.length + 1) (h1 : names ≠ []) : (∀ a, a ∈ kids → WF a) → WF (.mk op names kids loc)

mutual
/-- a bound on the length of its text. -/
def tw : X → Nat
  | .mk _ names kids _ => (names.map fun s => s.size + 16).sum + tws kids + 16
def tws : List X → Nat
  | [] => 0
  | x :: xs => tw x + 16 + tws xs
end
end Go.Proofs.YtleenphlgbklmabGreatDoor

namespace Go.Proofs.YtleenphlgbklmabGreatDoor

theorem is_name {l : List Tk} {s : ByteArray} {k : Nat} {bad : Int} (h : isM l s k bad = true) : (tkAt l k).is = s := by
  simp only [isM, Bool.and_eq_true, beq_iff_eq] at h
  cases h1 : (tkAt l k).is with
  | mk d =>
    cases s with
    | mk d' =>
      rw [h1] at h
      have := h.2
      simp only at this
      rw [show d = d' from Array.ext' this]
theorem needB_neg {l : List Tk} {s : ByteArray} {k : Nat} {bad : Int} (h : needB l s k bad < 0) : isM l s k bad = true ∧ needB l s k bad = bad ∧ takeK l s k bad = k + 1 ∧ bad < 0 := by
  by_cases hb : bad < 0
  · rcases need_or (l := l) (s := s) (k := k) hb with ⟨h1, h2, h3⟩ | ⟨h1, h2⟩
    · exact ⟨h1, h3, h2, hb⟩
    · omega
  · rw [needB_of_bad (by omega)] at h
    exact absurd h hb
theorem dupB_neg {names : List ByteArray} {s : ByteArray} {loc : Nat} {bad : Int} (h : dupB names s loc bad < 0) : dupB names s loc bad = bad := by
  rcases dupB_or (names := names) (s := s) (loc := loc) (bad := bad) with e | e
  · exact e
  · omega

/-- without a fault: what the grammar makes, by the tokens that were taken. -/
structure Made (l : List Tk) (n : Nat) : Prop where
  e : ∀ k bad x k' b', expM l n k bad = some (x, k', b') → b' < 0 → b' = bad ∧ WF x ∧ k < k' ∧ tw x + 56 ≤ 400 * (k' - k)
  b : ∀ nm kd k bad nm' kd' k' b', boundM l n nm kd k bad = some (nm', kd', k', b') → b' < 0 → b' = bad ∧ k < k' ∧ ∃ s y, nm' = nm ++ [s] ∧ kd' = kd ++ [y] ∧ WF y ∧ (s.size + 16) + (tw y + 16) + 56 ≤ 400 * (k' - k)
  nn : ∀ nm kd k bad nm' kd' k' b', andM l n nm kd k bad = some (nm', kd', k', b') → b' < 0 → b' = bad ∧ k ≤ k' ∧ ∃ ns ys, nm' = nm ++ ns ∧ kd' = kd ++ ys ∧ ns.length = ys.length ∧ (∀ y, y ∈ ys → WF y) ∧ (ns.map fun s => s.size + 16).sum + tws ys ≤ 400 * (k' - k)
  a : ∀ k bad x k' b', atomM l n k bad = some (x, k', b') → b' < 0 → b' = bad ∧ WF x ∧ k < k' ∧ tw x + 56 ≤ 400 * (k' - k)
  p : ∀ x k bad x' k' b', appM l n x k bad = some (x', k', b') → b' < 0 → b' = bad ∧ k ≤ k' ∧ (WF x → WF x') ∧ tw x' ≤ tw x + 400 * (k' - k)

theorem tws_app (xs ys : List X) : tws (xs ++ ys) = tws xs + tws ys := by
  induction xs with
  | nil => simp [tws]
  | cons x xs ih => simp only [List.cons_append, tws, ih]; omega

theorem made_succ {l : List Tk} (hs : ∀ k, (tkAt l k).s.size ≤ 300) (n : Nat) (ih : Made l n) : Made l (n + 1) := by
  refine ⟨?_, ?_, ?_, ?_, ?_⟩
  · intro k bad x k' b' h hb'
    rw [expM] at h
    split at h
    · rename_i c
      simp only [Option.some.injEq, Prod.mk.injEq] at h
      omega
    · split at h
      · rename_i c
        obtain ⟨⟨y, k1, b1⟩, hy, hq⟩ := Option.bind_eq_some_iff.1 h
        simp only [Option.some.injEq, Prod.mk.injEq] at hq
        obtain ⟨rfl, rfl, rfl⟩ := hq
        obtain ⟨e1, w1, g1, t1⟩ := ih.e _ _ _ _ _ hy hb'
        rw [e1] at hb'
        obtain ⟨m1, m2, m3, m4⟩ := needB_neg hb'
        obtain ⟨q1, q2, q3, q4⟩ := needB_neg m4
        rw [m3, q3] at g1 t1
        have := hs (k + 1)
        refine ⟨by rw [e1, m2, q2], .fn _ _ _ w1, by omega, ?_⟩
        simp only [tw, tws, List.map_cons, List.map_nil, List.sum_cons, List.sum_nil]
        omega
      · split at h
        · rename_i c
          obtain ⟨⟨y1, k1, b1⟩, h1, hq⟩ := Option.bind_eq_some_iff.1 h
          obtain ⟨⟨y2, k2, b2⟩, h2, hq⟩ := Option.bind_eq_some_iff.1 hq
          obtain ⟨⟨y3, k3, b3⟩, h3, hq⟩ := Option.bind_eq_some_iff.1 hq
          simp only [Option.some.injEq, Prod.mk.injEq] at hq
          obtain ⟨rfl, rfl, rfl⟩ := hq
          obtain ⟨e3, w3, g3, t3⟩ := ih.e _ _ _ _ _ h3 hb'
          rw [e3] at hb'
          obtain ⟨m1, m2, m3, m4⟩ := needB_neg hb'
          obtain ⟨e2, w2, g2, t2⟩ := ih.e _ _ _ _ _ h2 m4
          simp only at m4 e2
          rw [e2] at m4
          obtain ⟨q1, q2, q3, q4⟩ := needB_neg m4
          obtain ⟨e1, w1, g1, t1⟩ := ih.e _ _ _ _ _ h1 q4
          simp only at g1 g2 g3 t1 t2 t3 m3 q3
          rw [m3] at g3 t3
          rw [q3] at g2 t2
          refine ⟨by rw [e3, m2]; simp only; rw [e2, q2]; exact e1, .ite _ _ _ _ w1 w2 w3, by omega, ?_⟩
          simp only [tw, tws, List.map_nil, List.sum_nil]
          omega
        · split at h
          · rename_i c
            split at h
            · rename_i c2
              obtain ⟨⟨n1, d1, k1, b1⟩, h1, hq⟩ := Option.bind_eq_some_iff.1 h
              obtain ⟨⟨n2, d2, k2, b2⟩, h2, hq⟩ := Option.bind_eq_some_iff.1 hq
              obtain ⟨⟨y3, k3, b3⟩, h3, hq⟩ := Option.bind_eq_some_iff.1 hq
              simp only [Option.some.injEq, Prod.mk.injEq] at hq
              obtain ⟨rfl, rfl, rfl⟩ := hq
              obtain ⟨e3, w3, g3, t3⟩ := ih.e _ _ _ _ _ h3 hb'
              rw [e3] at hb'
              obtain ⟨m1, m2, m3, m4⟩ := needB_neg hb'
              obtain ⟨e2, g2, ns, ys, rfl, rfl, hl, hw, t2⟩ := ih.nn _ _ _ _ _ _ _ _ h2 m4
              simp only at m4 e2
              rw [e2] at m4
              obtain ⟨e1, g1, s1, y1, rfl, rfl, w1, t1⟩ := ih.b _ _ _ _ _ _ _ _ h1 m4
              simp only at g1 g2 g3 t1 t2 t3 m3
              rw [m3] at g3 t3
              refine ⟨by rw [e3, m2]; simp only; rw [e2]; exact e1, .lt _ _ _ _ (Or.inr rfl) (by simp [hl]) (by simp) ?_, by omega, ?_⟩
              · intro y hy
                simp only [List.nil_append, List.mem_append, List.mem_cons, List.not_mem_nil, or_false] at hy
                rcases hy with (rfl | hy) | rfl
                · exact w1
                · exact hw y hy
                · exact w3
              · simp only [tw, tws_app, tws, List.map_append, List.sum_append, List.map_cons, List.map_nil, List.sum_cons, List.sum_nil, List.nil_append]
                omega
            · obtain ⟨⟨n1, d1, k1, b1⟩, h1, hq⟩ := Option.bind_eq_some_iff.1 h
              obtain ⟨⟨y3, k3, b3⟩, h3, hq⟩ := Option.bind_eq_some_iff.1 hq
              simp only [Option.some.injEq, Prod.mk.injEq] at hq
              obtain ⟨rfl, rfl, rfl⟩ := hq
              obtain ⟨e3, w3, g3, t3⟩ := ih.e _ _ _ _ _ h3 hb'
              rw [e3] at hb'
              obtain ⟨m1, m2, m3, m4⟩ := needB_neg hb'
              obtain ⟨e1, g1, s1, y1, rfl, rfl, w1, t1⟩ := ih.b _ _ _ _ _ _ _ _ h1 m4
              simp only at g1 g3 t1 t3 m3
              rw [m3] at g3 t3
              refine ⟨by rw [e3, m2]; exact e1, .lt _ _ _ _ (Or.inl rfl) (by simp) (by simp) ?_, by omega, ?_⟩
              · intro y hy
                simp only [List.nil_append, List.mem_append, List.mem_cons, List.not_mem_nil, or_false] at hy
                rcases hy with rfl | rfl
                · exact w1
                · exact w3
              · simp only [tw, tws_app, tws, List.map_append, List.sum_append, List.map_cons, List.map_nil, List.sum_cons, List.sum_nil, List.nil_append]
                omega
          · obtain ⟨⟨y, k1, b1⟩, hy, hq⟩ := Option.bind_eq_some_iff.1 h
            obtain ⟨e2, g2, w2, t2⟩ := ih.p _ _ _ _ _ _ hq hb'
            simp only at e2 g2 w2 t2
            rw [e2] at hb'
            obtain ⟨e1, w1, g1, t1⟩ := ih.a _ _ _ _ _ hy hb'
            exact ⟨by rw [e2, e1], w2 w1, by omega, by omega⟩
  · intro nm kd k bad nm' kd' k' b' h hb'
    rw [boundM] at h
    obtain ⟨⟨y, k1, b1⟩, hy, hq⟩ := Option.bind_eq_some_iff.1 h
    simp only [Option.some.injEq, Prod.mk.injEq] at hq
    obtain ⟨rfl, rfl, rfl, rfl⟩ := hq
    obtain ⟨e1, w1, g1, t1⟩ := ih.e _ _ _ _ _ hy hb'
    rw [e1] at hb'
    obtain ⟨m1, m2, m3, m4⟩ := needB_neg hb'
    have m5 := dupB_neg m4
    rw [m5] at m4
    obtain ⟨q1, q2, q3, q4⟩ := needB_neg m4
    rw [m3, q3] at g1 t1
    have := hs k
    exact ⟨by rw [e1, m2, m5, q2], by omega, _, _, rfl, rfl, w1, by omega⟩
  · intro nm kd k bad nm' kd' k' b' h hb'
    rw [andM] at h
    split at h
    · obtain ⟨⟨n1, d1, k1, b1⟩, h1, hq⟩ := Option.bind_eq_some_iff.1 h
      obtain ⟨e2, g2, ns, ys, hn, hd, hl, hw, t2⟩ := ih.nn _ _ _ _ _ _ _ _ hq hb'
      simp only at e2 g2 hn hd t2
      rw [e2] at hb'
      obtain ⟨e1, g1, s1, y1, rfl, rfl, w1, t1⟩ := ih.b _ _ _ _ _ _ _ _ h1 hb'
      refine ⟨by rw [e2, e1], by omega, s1 :: ns, y1 :: ys, by rw [hn]; simp, by rw [hd]; simp, by simp [hl], ?_, ?_⟩
      · intro y hy
        rcases List.mem_cons.1 hy with rfl | hy
        · exact w1
        · exact hw y hy
      · simp only [tws, List.map_cons, List.sum_cons]
        omega
    · simp only [Option.some.injEq, Prod.mk.injEq] at h
      obtain ⟨rfl, rfl, rfl, rfl⟩ := h
      exact ⟨rfl, Nat.le_refl _, [], [], by simp, by simp, rfl, fun y hy => (nomatch hy), by simp [tws]⟩
  · intro k bad x k' b' h hb'
    rw [atomM] at h
    split at h
    · rename_i c
      simp only [Option.some.injEq, Prod.mk.injEq] at h
      obtain ⟨rfl, rfl, rfl⟩ := h
      have := hs k
      refine ⟨rfl, .leaf _ _ _ ?_, by omega, ?_⟩
      · rcases Bool.or_eq_true_iff.1 c with c | c
        · exact Or.inl (is_name c)
        · exact Or.inr (is_name c)
      · simp only [tw, tws, List.map_cons, List.map_nil, List.sum_cons, List.sum_nil]
        omega
    · obtain ⟨⟨y, k1, b1⟩, hy, hq⟩ := Option.bind_eq_some_iff.1 h
      simp only at hq
      split at hq
      · rename_i c
        obtain ⟨⟨z, k2, b2⟩, hz, hq⟩ := Option.bind_eq_some_iff.1 hq
        simp only [Option.some.injEq, Prod.mk.injEq] at hq
        obtain ⟨rfl, rfl, rfl⟩ := hq
        obtain ⟨m1, m2, m3, m4⟩ := needB_neg hb'
        obtain ⟨e2, w2, g2, t2⟩ := ih.e _ _ _ _ _ hz m4
        rw [e2] at m4
        obtain ⟨e1, w1, g1, t1⟩ := ih.e _ _ _ _ _ hy m4
        rw [e1] at m4
        obtain ⟨q1, q2, q3, q4⟩ := needB_neg m4
        rw [q3] at g1 t1
        rw [m3]
        refine ⟨by rw [m2, e2, e1, q2], .pair _ _ _ w1 w2, by omega, ?_⟩
        simp only [tw, tws, List.map_nil, List.sum_nil]
        omega
      · simp only [Option.some.injEq, Prod.mk.injEq] at hq
        obtain ⟨rfl, rfl, rfl⟩ := hq
        obtain ⟨m1, m2, m3, m4⟩ := needB_neg hb'
        obtain ⟨e1, w1, g1, t1⟩ := ih.e _ _ _ _ _ hy m4
        rw [e1] at m4
        obtain ⟨q1, q2, q3, q4⟩ := needB_neg m4
        rw [q3] at g1 t1
        rw [m3]
        exact ⟨by rw [m2, e1, q2], w1, by omega, by omega⟩
  · intro x k bad x' k' b' h hb'
    rw [appM] at h
    split at h
    · obtain ⟨⟨y, k1, b1⟩, hy, hq⟩ := Option.bind_eq_some_iff.1 h
      obtain ⟨e2, g2, w2, t2⟩ := ih.p _ _ _ _ _ _ hq hb'
      simp only at e2 g2 w2 t2
      rw [e2] at hb'
      obtain ⟨e1, w1, g1, t1⟩ := ih.a _ _ _ _ _ hy hb'
      refine ⟨by rw [e2, e1], by omega, fun hx => w2 (.app _ _ _ hx w1), ?_⟩
      simp only [tw, tws, List.map_nil, List.sum_nil] at t2
      omega
    · simp only [Option.some.injEq, Prod.mk.injEq] at h
      obtain ⟨rfl, rfl, rfl⟩ := h
      exact ⟨rfl, Nat.le_refl _, id, by omega⟩

theorem made (l : List Tk) (hs : ∀ k, (tkAt l k).s.size ≤ 300) (n : Nat) : Made l n := by
  induction n with
  | zero => exact ⟨fun _ _ _ _ _ h => by simp [expM] at h, fun _ _ _ _ _ _ _ _ h => by simp [boundM] at h, fun _ _ _ _ _ _ _ _ h => by simp [andM] at h, fun _ _ _ _ _ h => by simp [atomM] at h, fun _ _ _ _ _ _ h => by simp [appM] at h⟩
  | succ n ih => exact made_succ hs n ih
end Go.Proofs.YtleenphlgbklmabGreatDoor

namespace Go.Proofs.YtleenphlgbklmabGreatDoor
open Go.RowKit

theorem Tryz.info9 : (Tryz.prog.info? 9).map (fun i => (i.zero, i.size, i.bytes)) = some (some (.string { data := #[] }), 1, 16) := by kernel_rfl
end Go.Proofs.YtleenphlgbklmabGreatDoor

namespace Go.Proofs.YtleenphlgbklmabGreatDoor
open Go.RowKit

/-- the place goes on; a fault stays. -/
theorem needB_geT {l : List Tk} {s : ByteArray} {k : Nat} {bad : Int} (h : 0 ≤ bad) : needB l s k bad = bad := by
  unfold needB
  rw [if_neg (by simp; omega)]
theorem isM_geT {l : List Tk} {s : ByteArray} {k : Nat} {bad : Int} (h : 0 ≤ bad) : isM l s k bad = false := by
  unfold isM
  have : decide (bad < 0) = false := by simp; omega
  rw [this]; rfl
end Go.Proofs.YtleenphlgbklmabGreatDoor

namespace Go.Proofs.YtleenphlgbklmabGreatDoor
open Go.RowKit

mutual
theorem Ty.ind {P : Ty → Prop} (h : ∀ kd n kids, (∀ y, y ∈ kids → P y) → P (.mk kd n kids)) : ∀ x, P x
  | .mk kd n kids => h kd n kids (Ty.indL h kids)
theorem Ty.indL {P : Ty → Prop} (h : ∀ kd n kids, (∀ y, y ∈ kids → P y) → P (.mk kd n kids)) : ∀ (xs : List Ty) y, y ∈ xs → P y
  | [], y, hy => nomatch hy
  | x :: xs, y, hy => by
    rcases List.mem_cons.1 hy with e | e
    · rw [e]; exact Ty.ind h x
    · exact Ty.indL h xs y e
end

mutual
def sz : Ty → Nat
  | .mk _ _ kids => szs kids + 1
def szs : List Ty → Nat
  | [] => 0
  | x :: xs => sz x + szs xs
end
def Ty.no : Ty := .mk { data := #[] } 0 []
end Go.Proofs.YtleenphlgbklmabGreatDoor

namespace Go.Proofs.YtleenphlgbklmabGreatDoor
open Go.RowKit

/-- a type as it ought to be, of m variables. -/
inductive WT (m : Nat) : Ty → Prop
  | var (n : Nat) : n < m → WT m (.mk { data := #[] } n [])
  | int : WT m (.mk { data := #[105, 110, 116] } 0 [])
  | bool : WT m (.mk { data := #[98, 111, 111, 108] } 0 [])
  | list (a : Ty) : WT m a → WT m (.mk { data := #[108, 105, 115, 116] } 0 [a])
  | pair (a b : Ty) : WT m a → WT m b → WT m (.mk { data := #[112, 97, 105, 114] } 0 [a, b])
  | fn (a b : Ty) : WT m a → WT m b → WT m (.mk { data := #[102, 117, 110] } 0 [a, b])
end Go.Proofs.YtleenphlgbklmabGreatDoor

import Derived.Test.YtleenphlgbklmaaGreatDoorVPKnown
import Derived.Test.YtleenphlgbklmaaGreatDoorVTxC
import Derived.Test.YtleenphlgbklmaaGreatDoorVTWs
import Derived.Deep.RegionHeld3
set_option linter.unusedVariables false
set_option linter.unusedSimpArgs false
namespace Go.Proofs.YtleenphlgbklmaaGreatDoor
open Go.RowKit
theorem VM.vblk {w : World} {mb : Nat} {names : List ByteArray} {vb : List Nat} (h : VM w mb names vb) : ∀ c, c ∈ vb → VBlk w c := by
  intro c hc
  obtain ⟨j, hj, rfl⟩ := List.getElem_of_mem hc
  have := h.vr j (h.len ▸ hj)
  have e : vb.getD j 0 = vb[j] := by simp [List.getD, hj]
  rw [e] at this
  exact ⟨_, this⟩
/-- the variables' blocks, with their names. -/
def NB (w : World) (vb : List Nat) (names : List ByteArray) : Prop := vb.length = names.length ∧ ∀ j, j < names.length → w.heap[vb.getD j 0]? = some (.cells #[.nilIface, .string (names.getD j { data := #[] }), .bool false] 221 (0, 0))
theorem VM.nodup {w : World} {mb : Nat} {names : List ByteArray} {vb : List Nat} (h : VM w mb names vb) (hn : names.Nodup) : vb.Nodup := by
  refine List.pairwise_iff_getElem.2 ?_
  intro i j hi hj hij e
  have h1 := h.vr i (h.len ▸ hi)
  have h2 := h.vr j (h.len ▸ hj)
  have e1 : vb.getD i 0 = vb[i] := by simp [List.getD, hi]
  have e2 : vb.getD j 0 = vb[j] := by simp [List.getD, hj]
  rw [e1, e] at h1
  have hi' : i < names.length := h.len ▸ hi
  have hj' : j < names.length := h.len ▸ hj
  have g1 : names.getD i { data := #[] } = names[i] := by simp [List.getD, hi']
  have g2 : names.getD j { data := #[] } = names[j] := by simp [List.getD, hj']
  rw [e2] at h2
  rw [h2, g1, g2] at h1
  simp at h1
  exact (List.pairwise_iff_getElem.1 hn) i j hi' hj' hij h1.symm
end Go.Proofs.YtleenphlgbklmaaGreatDoor

namespace Go.Proofs.YtleenphlgbklmaaGreatDoor
open Go.RowKit

/-- the variables of a type that was read. -/
def vrs (names : List ByteArray) : St := names.map fun n => ⟨.vr n false, none⟩
/-- a type that was read, as nodes behind those of the store: what it is, and the nodes. -/
def addT (vs : Nat) : Ty → St → TR × St
  | .mk kd n kids, σ =>
    if kd.data.toList == [] then (.nd .vr (vs + n), σ)
    else if kd.data.toList == ({ data := #[105, 110, 116] } : ByteArray).data.toList then (.int, σ)
    else if kd.data.toList == ({ data := #[98, 111, 111, 108] } : ByteArray).data.toList then (.bool, σ)
    else match kids with
      | [a] =>
        let p := addT vs a σ
        (.nd .ls p.2.length, p.2 ++ [⟨.ls p.1, none⟩])
      | [a, c] =>
        let p := addT vs a σ
        let q := addT vs c p.2
        if kd.data.toList == ({ data := #[112, 97, 105, 114] } : ByteArray).data.toList then (.nd .pr q.2.length, q.2 ++ [⟨.pr p.1 q.1, none⟩]) else (.nd .ar q.2.length, q.2 ++ [⟨.ar p.1 q.1, none⟩])
      | _ => (.int, σ)
theorem addT_var (vs n : Nat) (σ : St) : addT vs (.mk { data := #[] } n []) σ = (.nd .vr (vs + n), σ) := by simp [addT]
theorem addT_int (vs : Nat) (σ : St) : addT vs (.mk { data := #[105, 110, 116] } 0 []) σ = (.int, σ) := by simp [addT]
theorem addT_bool (vs : Nat) (σ : St) : addT vs (.mk { data := #[98, 111, 111, 108] } 0 []) σ = (.bool, σ) := by simp [addT]
theorem addT_list (vs : Nat) (a : Ty) (σ : St) : addT vs (.mk { data := #[108, 105, 115, 116] } 0 [a]) σ = (.nd .ls (addT vs a σ).2.length, (addT vs a σ).2 ++ [⟨.ls (addT vs a σ).1, none⟩]) := by rw [addT]; simp
theorem addT_pair (vs : Nat) (a c : Ty) (σ : St) : addT vs (.mk { data := #[112, 97, 105, 114] } 0 [a, c]) σ = (.nd .pr (addT vs c (addT vs a σ).2).2.length, (addT vs c (addT vs a σ).2).2 ++ [⟨.pr (addT vs a σ).1 (addT vs c (addT vs a σ).2).1, none⟩]) := by rw [addT]; simp
theorem addT_fn (vs : Nat) (a c : Ty) (σ : St) : addT vs (.mk { data := #[102, 117, 110] } 0 [a, c]) σ = (.nd .ar (addT vs c (addT vs a σ).2).2.length, (addT vs c (addT vs a σ).2).2 ++ [⟨.ar (addT vs a σ).1 (addT vs c (addT vs a σ).2).1, none⟩]) := by rw [addT]; simp
/-- a node more, at a new block. -/
theorem SW.add {w : World} {ad : List Nat} {τ : St} (h : SW w ad τ) {b : Nat} (hb : ¬ b ∈ ad) {nk : NK} {o : Obj} (ho : w.heap[b]? = some o) (hn : NBk ad nk .nilIface o) : SW w (ad ++ [b]) (τ ++ [⟨nk, none⟩]) := by
  refine ⟨by simp [h.len], ?_, ?_⟩
  · refine List.nodup_append.2 ⟨h.inj, by simp, ?_⟩
    intro x hx y hy e
    simp at hy
    subst hy
    subst e
    exact hb hx
  · intro i mk s c hi hc
    by_cases e : i < τ.length
    · rw [List.getElem?_append_left e] at hi
      rw [List.getElem?_append_left (by rw [h.len]; exact e)] at hc
      obtain ⟨sv, o', h1, h2, h3⟩ := h.blk i mk s c hi hc
      exact ⟨sv, o', h1, h2.up _, h3.up _⟩
    · have e2 : i = τ.length := by
        have := (List.getElem?_eq_some_iff.1 hi).1
        simp at this
        omega
      subst e2
      rw [← h.len] at hc
      simp at hi hc
      obtain ⟨rfl, rfl⟩ := hi
      subst hc
      exact ⟨.nilIface, o, ho, rfl, hn.up _⟩
theorem SW.vars {w : World} (names : List ByteArray) : ∀ {ad : List Nat} {τ : St} {vb : List Nat}, SW w ad τ → vb.length = names.length → (∀ j, j < names.length → w.heap[vb.getD j 0]? = some (.cells #[.nilIface, .string (names.getD j { data := #[] }), .bool false] 221 (0, 0))) → vb.Nodup → (∀ c, c ∈ vb → ¬ c ∈ ad) → SW w (ad ++ vb) (τ ++ vrs names) := by
  induction names with
  | nil =>
    intro ad τ vb h hl _ _ _
    have : vb = [] := List.eq_nil_of_length_eq_zero (by simpa using hl)
    subst this
    simpa [vrs] using h
  | cons n names ih =>
    intro ad τ vb h hl hv hd hn
    cases vb with
    | nil => simp at hl
    | cons b vb =>
      have h0 := hv 0 (by simp)
      have h1 := h.add (hn b (by simp)) (nk := .vr n false) h0 rfl
      have := ih (vb := vb) h1 (by simpa using hl) (fun j hj => by
        have := hv (j + 1) (by simp; omega)
        simpa using this) (List.nodup_cons.1 hd).2 (fun c hc z => by
        simp at z
        rcases z with z | z
        · exact hn c (by simp [hc]) z
        · subst z
          exact (List.nodup_cons.1 hd).1 hc)
      simpa [vrs, List.append_assoc] using this
/-- a type that was read joins the store. -/
theorem SW.adopt {w : World} {vb : List Nat} {lo hi : Nat} {t : Ty} {v : Value} (h : PTyR w vb lo hi t v) : ∀ (vs : Nat) (ad : List Nat) (τ : St), SW w ad τ → (∀ n b, vb[n]? = some b → ad[vs + n]? = some b) → (∀ c, c ∈ ad → (∃ cs f, w.heap[c]? = some (.cells cs 221 f)) ∨ c < lo) →
    ∃ bl, SW w (ad ++ bl) (addT vs t τ).2 ∧ RV (ad ++ bl) (addT vs t τ).1 v ∧ (∀ c, c ∈ bl → lo ≤ c ∧ c < hi) := by
  induction h with
  | var n b lo hi h1 hb =>
    intro vs ad τ hs hv hlo
    rw [addT_var]
    exact ⟨[], by simpa using hs, ⟨b, by simpa using hv n b hb, rfl⟩, by simp⟩
  | base kd lo hi h1 hk =>
    intro vs ad τ hs hv hlo
    rcases hk with rfl | rfl
    · rw [addT_int]
      exact ⟨[], by simpa using hs, rfl, by simp⟩
    · rw [addT_bool]
      exact ⟨[], by simpa using hs, rfl, by simp⟩
  | list a b p lo m hi hb ha h1 h2 ih =>
    intro vs ad τ hs hv hlo
    obtain ⟨bl, s1, r1, q1⟩ := ih vs ad τ hs hv hlo
    have hm := ha.le
    rw [addT_list]
    have hnb : ¬ b ∈ ad ++ bl := fun z => by
      simp at z
      rcases z with z | z
      · rcases hlo b z with ⟨cs, f, e⟩ | e
        · rw [hb] at e
          simp at e
        · omega
      · have := q1 b z
        omega
    refine ⟨bl ++ [b], ?_, ?_, ?_⟩
    · rw [← List.append_assoc]
      exact s1.add hnb hb ⟨p, r1, rfl⟩
    · refine ⟨b, ?_, rfl⟩
      rw [← List.append_assoc, ← s1.len]
      simp
    · intro c hc
      simp at hc
      rcases hc with hc | rfl
      · have := q1 c hc
        omega
      · omega
  | pair a c b p q lo m k hi hb ha hc h1 h2 ih ih2 =>
    intro vs ad τ hs hv hlo
    obtain ⟨bl, s1, r1, q1⟩ := ih vs ad τ hs hv hlo
    have hm := ha.le
    have hmk := hc.le
    obtain ⟨bl2, s2, r2, q2⟩ := ih2 vs (ad ++ bl) _ s1 (fun n b hb => by rw [List.getElem?_append_left (List.getElem?_eq_some_iff.1 (hv n b hb)).1]; exact hv n b hb) (fun x hx => by
      simp at hx
      rcases hx with hx | hx
      · rcases hlo x hx with e | e
        · exact .inl e
        · exact .inr (by omega)
      · exact .inr (q1 x hx).2)
    rw [addT_pair]
    have hnb : ¬ b ∈ ad ++ bl ++ bl2 := fun z => by
      simp at z
      rcases z with z | z | z
      · rcases hlo b z with ⟨cs, f, e⟩ | e
        · rw [hb] at e
          simp at e
        · omega
      · have := q1 b z
        omega
      · have := q2 b z
        omega
    refine ⟨bl ++ bl2 ++ [b], ?_, ?_, ?_⟩
    · have := s2.add hnb hb (nk := .pr (addT vs a τ).1 (addT vs c (addT vs a τ).2).1) ⟨p, q, r1.up _, r2, rfl⟩
      simpa [List.append_assoc] using this
    · refine ⟨b, ?_, rfl⟩
      rw [← s2.len]
      simp [List.append_assoc]
    · intro x hx
      simp at hx
      rcases hx with hx | hx | rfl
      · have := q1 x hx
        omega
      · have := q2 x hx
        omega
      · omega
  | fn a c b p q lo m k hi hb ha hc h1 h2 ih ih2 =>
    intro vs ad τ hs hv hlo
    obtain ⟨bl, s1, r1, q1⟩ := ih vs ad τ hs hv hlo
    have hm := ha.le
    have hmk := hc.le
    obtain ⟨bl2, s2, r2, q2⟩ := ih2 vs (ad ++ bl) _ s1 (fun n b hb => by rw [List.getElem?_append_left (List.getElem?_eq_some_iff.1 (hv n b hb)).1]; exact hv n b hb) (fun x hx => by
      simp at hx
      rcases hx with hx | hx
      · rcases hlo x hx with e | e
        · exact .inl e
        · exact .inr (by omega)
      · exact .inr (q1 x hx).2)
    rw [addT_fn]
    have hnb : ¬ b ∈ ad ++ bl ++ bl2 := fun z => by
      simp at z
      rcases z with z | z | z
      · rcases hlo b z with ⟨cs, f, e⟩ | e
        · rw [hb] at e
          simp at e
        · omega
      · have := q1 b z
        omega
      · have := q2 b z
        omega
    refine ⟨bl ++ bl2 ++ [b], ?_, ?_, ?_⟩
    · have := s2.add hnb hb (nk := .ar (addT vs a τ).1 (addT vs c (addT vs a τ).2).1) ⟨p, q, r1.up _, r2, rfl⟩
      simpa [List.append_assoc] using this
    · refine ⟨b, ?_, rfl⟩
      rw [← s2.len]
      simp [List.append_assoc]
    · intro x hx
      simp at hx
      rcases hx with hx | hx | rfl
      · have := q1 x hx
        omega
      · have := q2 x hx
        omega
      · omega
mutual
/-- the same tree, with the variables' numbers behind vs. -/
def shiftT (vs : Nat) : Ty → Ty
  | .mk kd n kids => if kd.data.toList == [] then .mk kd (vs + n) [] else .mk kd n (shiftTs vs kids)
def shiftTs (vs : Nat) : List Ty → List Ty
  | [] => []
  | t :: ts => shiftT vs t :: shiftTs vs ts
end
theorem shiftT_var (vs n : Nat) : shiftT vs (.mk { data := #[] } n []) = .mk { data := #[] } (vs + n) [] := by simp [shiftT]
theorem shiftT_int (vs : Nat) : shiftT vs (.mk { data := #[105, 110, 116] } 0 []) = .mk { data := #[105, 110, 116] } 0 [] := by simp [shiftT, shiftTs]
theorem shiftT_bool (vs : Nat) : shiftT vs (.mk { data := #[98, 111, 111, 108] } 0 []) = .mk { data := #[98, 111, 111, 108] } 0 [] := by simp [shiftT, shiftTs]
theorem shiftT_list (vs : Nat) (a : Ty) : shiftT vs (.mk { data := #[108, 105, 115, 116] } 0 [a]) = .mk { data := #[108, 105, 115, 116] } 0 [shiftT vs a] := by simp [shiftT, shiftTs]
theorem shiftT_pair (vs : Nat) (a c : Ty) : shiftT vs (.mk { data := #[112, 97, 105, 114] } 0 [a, c]) = .mk { data := #[112, 97, 105, 114] } 0 [shiftT vs a, shiftT vs c] := by simp [shiftT, shiftTs]
theorem shiftT_fn (vs : Nat) (a c : Ty) : shiftT vs (.mk { data := #[102, 117, 110] } 0 [a, c]) = .mk { data := #[102, 117, 110] } 0 [shiftT vs a, shiftT vs c] := by simp [shiftT, shiftTs]
theorem addT_pre (vs : Nat) {m : Nat} {t : Ty} (h : WT m t) : ∀ τ, ∃ u, (addT vs t τ).2 = τ ++ u := by
  induction h with
  | var n hn => intro τ; rw [addT_var]; exact ⟨[], by simp⟩
  | int => intro τ; rw [addT_int]; exact ⟨[], by simp⟩
  | bool => intro τ; rw [addT_bool]; exact ⟨[], by simp⟩
  | list a _ ih =>
    intro τ
    obtain ⟨u, hu⟩ := ih τ
    rw [addT_list]
    exact ⟨u ++ [⟨.ls (addT vs a τ).1, none⟩], by rw [← List.append_assoc, ← hu]⟩
  | pair a b _ _ ih ih2 =>
    intro τ
    obtain ⟨u, hu⟩ := ih τ
    obtain ⟨u2, hu2⟩ := ih2 (addT vs a τ).2
    rw [addT_pair]
    exact ⟨u ++ u2 ++ [⟨.pr (addT vs a τ).1 (addT vs b (addT vs a τ).2).1, none⟩], by rw [← List.append_assoc, ← List.append_assoc, ← hu, ← hu2]⟩
  | fn a b _ _ ih ih2 =>
    intro τ
    obtain ⟨u, hu⟩ := ih τ
    obtain ⟨u2, hu2⟩ := ih2 (addT vs a τ).2
    rw [addT_fn]
    exact ⟨u ++ u2 ++ [⟨.ar (addT vs a τ).1 (addT vs b (addT vs a τ).2).1, none⟩], by rw [← List.append_assoc, ← List.append_assoc, ← hu, ← hu2]⟩
theorem st_up {σ : St} {i : Nat} {x : Nd} (h : σ[i]? = some x) (u : St) : (σ ++ u)[i]? = some x := by
  rw [List.getElem?_append_left (List.getElem?_eq_some_iff.1 h).1]
  exact h
theorem Dn.up {σ : St} {r : TR} {t : Ty} (h : Dn σ r t) (u : St) : Dn (σ ++ u) r t := by
  induction h with
  | int r h => exact .int r (h.up u)
  | bool r h => exact .bool r (h.up u)
  | var r i h => exact .var r i (h.up u)
  | list r i x a h h1 _ ih => exact .list r i x a (h.up u) (st_up h1 u) ih
  | pair r i x y a c h h1 _ _ ih ih2 => exact .pair r i x y a c (h.up u) (st_up h1 u) ih ih2
  | fn r i x y a c h h1 _ _ ih ih2 => exact .fn r i x y a c (h.up u) (st_up h1 u) ih ih2
/-- what was read is that tree. -/
theorem Dn.addT (vs : Nat) {m : Nat} {t : Ty} (h : WT m t) : ∀ τ : St, (∀ n, n < m → ∃ nm g, τ[vs + n]? = some ⟨.vr nm g, none⟩) → Dn (Go.Proofs.YtleenphlgbklmaaGreatDoor.addT vs t τ).2 (Go.Proofs.YtleenphlgbklmaaGreatDoor.addT vs t τ).1 (shiftT vs t) := by
  induction h with
  | var n hn =>
    intro τ hv
    rw [addT_var, shiftT_var]
    obtain ⟨nm, g, e⟩ := hv n hn
    exact .var _ _ (.root (vs + n) (.vr nm g) e)
  | int => intro τ hv; rw [addT_int, shiftT_int]; exact .int _ .int
  | bool => intro τ hv; rw [addT_bool, shiftT_bool]; exact .bool _ .bool
  | list a ha ih =>
    intro τ hv
    have h1 := ih τ hv
    rw [addT_list, shiftT_list]
    have e : ((Go.Proofs.YtleenphlgbklmaaGreatDoor.addT vs a τ).2 ++ [(⟨.ls (Go.Proofs.YtleenphlgbklmaaGreatDoor.addT vs a τ).1, none⟩ : Nd)])[(Go.Proofs.YtleenphlgbklmaaGreatDoor.addT vs a τ).2.length]? = some ⟨.ls (Go.Proofs.YtleenphlgbklmaaGreatDoor.addT vs a τ).1, none⟩ := by simp
    exact .list _ _ _ _ (.root _ (.ls _) e) e (h1.up _)
  | pair a b ha hb ih ih2 =>
    intro τ hv
    have h1 := ih τ hv
    obtain ⟨u, hu⟩ := addT_pre vs ha τ
    have h2 := ih2 (Go.Proofs.YtleenphlgbklmaaGreatDoor.addT vs a τ).2 (fun n hn => by
      obtain ⟨nm, g, e⟩ := hv n hn
      exact ⟨nm, g, by rw [hu]; exact st_up e u⟩)
    obtain ⟨u2, hu2⟩ := addT_pre vs hb (Go.Proofs.YtleenphlgbklmaaGreatDoor.addT vs a τ).2
    rw [addT_pair, shiftT_pair]
    have e : ((Go.Proofs.YtleenphlgbklmaaGreatDoor.addT vs b (Go.Proofs.YtleenphlgbklmaaGreatDoor.addT vs a τ).2).2 ++ [(⟨.pr (Go.Proofs.YtleenphlgbklmaaGreatDoor.addT vs a τ).1 (Go.Proofs.YtleenphlgbklmaaGreatDoor.addT vs b (Go.Proofs.YtleenphlgbklmaaGreatDoor.addT vs a τ).2).1, none⟩ : Nd)])[(Go.Proofs.YtleenphlgbklmaaGreatDoor.addT vs b (Go.Proofs.YtleenphlgbklmaaGreatDoor.addT vs a τ).2).2.length]? = some ⟨.pr (Go.Proofs.YtleenphlgbklmaaGreatDoor.addT vs a τ).1 (Go.Proofs.YtleenphlgbklmaaGreatDoor.addT vs b (Go.Proofs.YtleenphlgbklmaaGreatDoor.addT vs a τ).2).1, none⟩ := by simp
    refine .pair _ _ _ _ _ _ (.root _ (.pr _ _) e) e ?_ (h2.up _)
    have := (h1.up u2).up [(⟨.pr (Go.Proofs.YtleenphlgbklmaaGreatDoor.addT vs a τ).1 (Go.Proofs.YtleenphlgbklmaaGreatDoor.addT vs b (Go.Proofs.YtleenphlgbklmaaGreatDoor.addT vs a τ).2).1, none⟩ : Nd)]
    rw [← hu2] at this
    exact this
  | fn a b ha hb ih ih2 =>
    intro τ hv
    have h1 := ih τ hv
    obtain ⟨u, hu⟩ := addT_pre vs ha τ
    have h2 := ih2 (Go.Proofs.YtleenphlgbklmaaGreatDoor.addT vs a τ).2 (fun n hn => by
      obtain ⟨nm, g, e⟩ := hv n hn
      exact ⟨nm, g, by rw [hu]; exact st_up e u⟩)
    obtain ⟨u2, hu2⟩ := addT_pre vs hb (Go.Proofs.YtleenphlgbklmaaGreatDoor.addT vs a τ).2
    rw [addT_fn, shiftT_fn]
    have e : ((Go.Proofs.YtleenphlgbklmaaGreatDoor.addT vs b (Go.Proofs.YtleenphlgbklmaaGreatDoor.addT vs a τ).2).2 ++ [(⟨.ar (Go.Proofs.YtleenphlgbklmaaGreatDoor.addT vs a τ).1 (Go.Proofs.YtleenphlgbklmaaGreatDoor.addT vs b (Go.Proofs.YtleenphlgbklmaaGreatDoor.addT vs a τ).2).1, none⟩ : Nd)])[(Go.Proofs.YtleenphlgbklmaaGreatDoor.addT vs b (Go.Proofs.YtleenphlgbklmaaGreatDoor.addT vs a τ).2).2.length]? = some ⟨.ar (Go.Proofs.YtleenphlgbklmaaGreatDoor.addT vs a τ).1 (Go.Proofs.YtleenphlgbklmaaGreatDoor.addT vs b (Go.Proofs.YtleenphlgbklmaaGreatDoor.addT vs a τ).2).1, none⟩ := by simp
    refine .fn _ _ _ _ _ _ (.root _ (.ar _ _) e) e ?_ (h2.up _)
    have := (h1.up u2).up [(⟨.ar (Go.Proofs.YtleenphlgbklmaaGreatDoor.addT vs a τ).1 (Go.Proofs.YtleenphlgbklmaaGreatDoor.addT vs b (Go.Proofs.YtleenphlgbklmaaGreatDoor.addT vs a τ).2).1, none⟩ : Nd)]
    rw [← hu2] at this
    exact this
theorem PTyR.wt {w : World} {vb : List Nat} {lo hi : Nat} {t : Ty} {v : Value} (h : PTyR w vb lo hi t v) : WT vb.length t := by
  induction h with
  | var n b lo hi _ hb => exact .var n (List.getElem?_eq_some_iff.1 hb).1
  | base kd lo hi _ hk => rcases hk with rfl | rfl; exact .int; exact .bool
  | list a b p lo m hi hb ha _ _ ih => exact .list a ih
  | pair a c b p q lo m k hi hb ha hc _ _ ih ih2 => exact .pair a c ih ih2
  | fn a c b p q lo m k hi hb ha hc _ _ ih ih2 => exact .fn a c ih ih2
end Go.Proofs.YtleenphlgbklmaaGreatDoor

namespace Go.Proofs.YtleenphlgbklmaaGreatDoor
open Go.RowKit

theorem SX.add {w : World} {ad : List Nat} {σ : St} (hs : SX w ad σ) (hw : WS σ) {b : Nat} (hb : ¬ b ∈ ad) {nk : NK} {o : Obj} (ho : w.heap[b]? = some o) (hn : NBk ad nk .nilIface o) : SX w (ad ++ [b]) (σ ++ [⟨nk, none⟩]) := by
  obtain ⟨τ, h1, h2⟩ := hs
  exact ⟨_, h1.add hb ho hn, h2.add hw nk⟩
theorem SX.lt {w : World} {ad : List Nat} {σ : St} (hs : SX w ad σ) {b : Nat} (hb : b ∈ ad) : b < w.heap.size := by
  obtain ⟨τ, h1, _⟩ := hs
  obtain ⟨o, ho, _⟩ := h1.tb hb
  exact lt_of_block ho
theorem RV.last {ad : List Nat} {σ : St} {b : Nat} (h : ad.length = σ.length) (k : Kd) : RV (ad ++ [b]) (.nd k σ.length) (.iface k.tp (.pointer (some ⟨b, 0, none⟩))) := ⟨b, by rw [← h]; simp, rfl⟩
/-- what a call that makes types leaves. -/
structure Gw (S : Nat → Prop) (ad ad' : List Nat) (w w' : World) : Prop where
  up : ∃ u, ad' = ad ++ u ∧ ∀ q, q ∈ u → w.heap.size ≤ q
  kt : Kt ad S w w'
theorem Gw.of {S : Nat → Prop} {ad : List Nat} {w w' : World} (k : Kt ad S w w') : Gw S ad ad w w' := ⟨⟨[], by simp, by simp⟩, k⟩
theorem Gw.trans {S : Nat → Prop} {a b c : List Nat} {w1 w2 w3 : World} (h : Gw S a b w1 w2) (g : Gw S b c w2 w3) : Gw S a c w1 w3 := by
  obtain ⟨⟨u, rfl, hu⟩, k⟩ := h
  obtain ⟨⟨u2, rfl, hu2⟩, k2⟩ := g
  refine ⟨⟨u ++ u2, by simp, ?_⟩, k.then k2 ?_⟩
  · intro q hq
    simp at hq
    rcases hq with hq | hq
    · exact hu q hq
    · exact Nat.le_trans k.size (hu2 q hq)
  · intro q hq
    simp at hq
    rcases hq with hq | hq
    · exact .inl hq
    · exact .inr (hu q hq)
theorem Gw.rv {S : Nat → Prop} {a b : List Nat} {w1 w2 : World} (h : Gw S a b w1 w2) {r : TR} {v : Value} (hv : RV a r v) : RV b r v := by
  obtain ⟨⟨u, rfl, hu⟩, _⟩ := h
  exact hv.up u
theorem Gw.snoc {S : Nat → Prop} {ad : List Nat} {w w' : World} {b : Nat} (k : Kt ad S w w') (hb : w.heap.size ≤ b) : Gw S ad (ad ++ [b]) w w' := ⟨⟨[b], rfl, by intro q hq; simp at hq; omega⟩, k⟩
/-- a new variable. -/
theorem SX.newv {w : World} {ad : List Nat} {σ : St} (hs : SX w ad σ) (hw : WS σ) (g : Bool) : SX (w.alloc (.cells #[.nilIface, .string { data := #[] }, .bool g] 221)) (ad ++ [w.heap.size]) (σ ++ [⟨.vr { data := #[] } g, none⟩]) :=
  (hs.kept (Kept.alloc _ _)).add hw (fun z => by have := hs.lt z; omega) (heap_alloc_new _ _) rfl
theorem SX.vcell {w : World} {ad : List Nat} {σ : St} (hs : SX w ad σ) {i b : Nat} {nm : ByteArray} {g : Bool} (hi : σ[i]? = some ⟨.vr nm g, none⟩) (hb : ad[i]? = some b) : w.cell? ⟨b, 2, none⟩ = some (.bool g) := by
  obtain ⟨o, ho, hn⟩ := hs.blk hi hb
  rw [show o = _ from hn] at ho
  simp [World.cell?, ho]
def FvO (w : World) (mb : Nat) (ad : List Nat) (σ' : St) (r' : TR) (m' : List (Nat × Nat)) (e : Ending) (w' : World) : Prop := ∃ c ad', e = .returned (.pointer (some ⟨c, 0, none⟩)) ∧ RV ad' r' (.iface 216 (.pointer (some ⟨c, 0, none⟩))) ∧ SX w' ad' σ' ∧ WS σ' ∧ VV w' mb ad' σ' m' ∧ Gw (fun q => q = mb) ad ad' w w'
set_option maxRecDepth 20000 in
set_option maxHeartbeats 2000000 in
theorem fvar_old {w : World} {mb : Nat} {ad : List Nat} {σ : St} {m : List (Nat × Nat)} {i b : Nat} {nm : ByteArray} (hi : σ[i]? = some ⟨.vr nm false, none⟩) (hb : ad[i]? = some b) (hs : SX w ad σ) (hw : WS σ) (hm : VV w mb ad σ m) : Calls Tryz.prog 232 #[.map (some mb), .pointer (some ⟨b, 0, none⟩)] w (FvO w mb ad σ (.nd .vr i) m) := by
  have hc := hs.vcell hi hb
  have HF : Hid (FvO w mb ad σ (.nd .vr i) m (.returned (.pointer (some ⟨b, 0, none⟩))) w) := ⟨b, ad, rfl, ⟨b, hb, rfl⟩, hs, hw, hm, Gw.of (Kt.refl _ _ _)⟩
  clear hs hw hm hi hb
  go_enter Tryz.func232, Tryz.ntmps232
  go_wp2
  go_ret
  exact HF.out
set_option maxRecDepth 20000 in
set_option maxHeartbeats 2000000 in
theorem fvar_hit {w : World} {mb : Nat} {ad : List Nat} {σ : St} {m : List (Nat × Nat)} {i b j : Nat} {nm : ByteArray} (hi : σ[i]? = some ⟨.vr nm true, none⟩) (hb : ad[i]? = some b) (hj : lookF i m = some j) (hs : SX w ad σ) (hw : WS σ) (hm : VV w mb ad σ m) : Calls Tryz.prog 232 #[.map (some mb), .pointer (some ⟨b, 0, none⟩)] w (FvO w mb ad σ (.nd .vr j) m) := by
  have hc := hs.vcell hi hb
  obtain ⟨c, hcj, hl, _⟩ := (look_vv hm hs hi rfl hb 380 Tryz.underlying380).1 j hj
  have HF : Hid (FvO w mb ad σ (.nd .vr j) m (.returned (.pointer (some ⟨c, 0, none⟩))) w) := ⟨c, ad, rfl, ⟨c, hcj, rfl⟩, hs, hw, hm, Gw.of (Kt.refl _ _ _)⟩
  clear hs hw hm hi hb hj hcj
  go_enter Tryz.func232, Tryz.ntmps232
  go_wp2
  go_ret
  exact HF.out
set_option maxRecDepth 20000 in
set_option maxHeartbeats 2000000 in
theorem fvar_new {w : World} {mb : Nat} {ad : List Nat} {σ : St} {m : List (Nat × Nat)} {i b : Nat} {nm : ByteArray} (hi : σ[i]? = some ⟨.vr nm true, none⟩) (hb : ad[i]? = some b) (hj : lookF i m = none) (hs : SX w ad σ) (hw : WS σ) (hm : VV w mb ad σ m) : Calls Tryz.prog 232 #[.map (some mb), .pointer (some ⟨b, 0, none⟩)] w (FvO w mb ad (σ ++ [newV]) (.nd .vr σ.length) (m ++ [(i, σ.length)])) := by
  have hc := hs.vcell hi hb
  obtain ⟨hl, _⟩ := (look_vv hm hs hi rfl hb 380 Tryz.underlying380).2 hj
  have hka : Kept w (w.alloc (.cells #[.nilIface, .string { data := #[] }, .bool false] 221)) := Kept.alloc _ _
  have hs1 := hs.newv hw false
  have hm1 := (hm.kt (Kt.of_kept (ad := ad) (S := fun _ => False) hka) id).up [w.heap.size] [newV]
  have hlast := RV.last (b := w.heap.size) hs.len .vr
  have hbu : (ad ++ [w.heap.size])[i]? = some b := by rw [List.getElem?_append_left (List.getElem?_eq_some_iff.1 hb).1]; exact hb
  obtain ⟨w2, hp, hs2, hm2, hk2⟩ := put_vv hm1 hs1 (i := i) (b := b) (j := σ.length) (c := w.heap.size) (nd := ⟨.vr nm true, none⟩) (get_snoc hi) rfl hbu (by rw [← hs.len]; simp) hj 380 Tryz.underlying380
  have HF : Hid (FvO w mb ad (σ ++ [newV]) (.nd .vr σ.length) (m ++ [(i, σ.length)]) (.returned (.pointer (some ⟨w.heap.size, 0, none⟩))) w2) := ⟨_, _, rfl, hlast, hs2, hw.add _, hm2, (Gw.snoc (Kt.of_kept hka) (Nat.le_refl _)).trans (Gw.of hk2)⟩
  clear hs hw hm hi hb hj hs1 hm1 hlast hbu hs2 hm2 hk2 hka
  go_enter Tryz.func232, Tryz.ntmps232
  go_wp2
  go_ret
  exact HF.out
end Go.Proofs.YtleenphlgbklmaaGreatDoor

namespace Go.Proofs.YtleenphlgbklmaaGreatDoor
open Go.RowKit

def InO (w : World) (mb : Nat) (ad : List Nat) (p : TR × St × List (Nat × Nat)) (e : Ending) (w' : World) : Prop := ∃ v' ad', e = .returned v' ∧ RV ad' p.1 v' ∧ SX w' ad' p.2.1 ∧ WS p.2.1 ∧ VV w' mb ad' p.2.1 p.2.2 ∧ Gw (fun q => q = mb) ad ad' w w'
def SIns (n : Nat) : Prop := ∀ (σ : St) (r : TR) (m : List (Nat × Nat)) (p : TR × St × List (Nat × Nat)), instF n σ r m = some p → ∀ (w : World) (ad : List Nat) (v : Value) (mb : Nat), SX w ad σ → WS σ → RV ad r v → VV w mb ad σ m →
  Calls Tryz.prog 220 #[.map (some mb), v] w (InO w mb ad p)
theorem Gw.pre {S : Nat → Prop} {ad ad' : List Nat} {w w1 w' : World} (k : Kt ad S w w1) (h : Gw S ad ad' w1 w') : Gw S ad ad' w w' := (Gw.of k).trans h
theorem instF_pre : ∀ (n : Nat) {σ : St} {r : TR} {m : List (Nat × Nat)} {p : TR × St × List (Nat × Nat)}, instF n σ r m = some p → ∃ u, p.2.1 = σ ++ u := by
  intro n
  induction n with
  | zero => intro σ r m p h; simp [instF] at h
  | succ n ih =>
    intro σ r m p h
    simp only [instF, Option.bind_eq_some_iff] at h
    obtain ⟨r0, _, h⟩ := h
    cases r0 with
    | int => simp only [Option.some.injEq] at h; exact ⟨[], by rw [← h]; simp⟩
    | bool => simp only [Option.some.injEq] at h; exact ⟨[], by rw [← h]; simp⟩
    | nd k i =>
      simp only at h
      split at h
      · simp only [Option.some.injEq] at h; exact ⟨[], by rw [← h]; simp⟩
      · split at h
        · simp only [Option.some.injEq] at h; exact ⟨[], by rw [← h]; simp⟩
        · simp only [Option.some.injEq] at h; exact ⟨[newV], by rw [← h]⟩
      · simp only [Option.bind_eq_some_iff, Option.some.injEq] at h
        obtain ⟨p1, h1, h⟩ := h
        obtain ⟨u, hu⟩ := ih h1
        exact ⟨u ++ [⟨.ls p1.1, none⟩], by rw [← h, hu]; simp⟩
      · simp only [Option.bind_eq_some_iff, Option.some.injEq] at h
        obtain ⟨p1, h1, p2, h2, h⟩ := h
        obtain ⟨u, hu⟩ := ih h1
        obtain ⟨u2, hu2⟩ := ih h2
        exact ⟨u ++ u2 ++ [⟨.pr p1.1 p2.1, none⟩], by rw [← h, hu2, hu]; simp⟩
      · simp only [Option.bind_eq_some_iff, Option.some.injEq] at h
        obtain ⟨p1, h1, p2, h2, h⟩ := h
        obtain ⟨u, hu⟩ := ih h1
        obtain ⟨u2, hu2⟩ := ih h2
        exact ⟨u ++ u2 ++ [⟨.ar p1.1 p2.1, none⟩], by rw [← h, hu2, hu]; simp⟩
      · simp at h
theorem two_cells {C : TR → TR → NK} {tT : TypeId} (hC : ∀ ad a c o, NBk ad (C a c) .nilIface o ↔ ∃ p q, RV ad a p ∧ RV ad c q ∧ o = .cells #[.nilIface, p, q] tT (0, 0)) {w : World} {ad : List Nat} {σ : St} {x y : TR} {vx vy : Value} {i b : Nat} (hs : SX w ad σ) (hi : σ[i]? = some ⟨C x y, none⟩) (hb : ad[i]? = some b) (hvx : RV ad x vx) (hvy : RV ad y vy) : w.cell? ⟨b, 1, none⟩ = some vx ∧ w.cell? ⟨b, 2, none⟩ = some vy := by
  obtain ⟨o, ho, hn⟩ := hs.blk hi hb
  obtain ⟨p, q, h1, h2, rfl⟩ := (hC _ _ _ _).1 hn
  rw [hvx.det h1, hvy.det h2]
  exact ⟨by simp [World.cell?, ho], by simp [World.cell?, ho]⟩
theorem ins_aux (n : Nat) (ih : SIns n) {C : TR → TR → NK} {k : Kd} {tT : TypeId} (hk : ∀ a c, (C a c).kd = k) (hC : ∀ ad a c o, NBk ad (C a c) .nilIface o ↔ ∃ p q, RV ad a p ∧ RV ad c q ∧ o = .cells #[.nilIface, p, q] tT (0, 0)) {σ : St} {x y : TR} {m : List (Nat × Nat)} {p1 p2 : TR × St × List (Nat × Nat)} (h1 : instF n σ x m = some p1) (h2 : instF n p1.2.1 y p1.2.2 = some p2) {w w1 : World} {ad : List Nat} {vx vy : Value} {mb : Nat} (hs : SX w1 ad σ) (hw : WS σ) (hm : VV w1 mb ad σ m) (hk1 : Kt ad (fun q => q = mb) w w1) (hvx : RV ad x vx) (hvy : RV ad y vy) {i b : Nat} (hi : σ[i]? = some ⟨C x y, none⟩) (hb : ad[i]? = some b) :
    Calls Tryz.prog 220 #[.map (some mb), vx] w1 fun e w2 => ∃ T2 u2, e = .returned (.iface T2 u2) ∧ w2.cell? ⟨b, 1, none⟩ = some vx ∧ w2.cell? ⟨b, 2, none⟩ = some vy ∧
      Hid (Calls Tryz.prog 220 #[.map (some mb), vy] w2 fun e w3 => ∃ T3 u3, e = .returned (.iface T3 u3) ∧ w3.cell? ⟨b, 1, none⟩ = some vx ∧ w3.cell? ⟨b, 2, none⟩ = some vy ∧
        Hid (InO w mb ad (.nd k p2.2.1.length, p2.2.1 ++ [⟨C p1.1 p2.1, none⟩], p2.2.2) (.returned (.iface k.tp (.pointer (some ⟨w3.heap.size, 0, none⟩)))) (w3.alloc (.cells #[.nilIface, .iface T2 u2, .iface T3 u3] tT)))) := by
  obtain ⟨u1, hu1⟩ := instF_pre n h1
  obtain ⟨u2, hu2⟩ := instF_pre n h2
  refine (ih σ x m p1 h1 w1 ad vx mb hs hw hvx hm).mono ?_
  rintro e w2 ⟨v2, ad2, rfl, hv2, hs2, hw2, hm2, hg2⟩
  obtain ⟨T2, z2, rfl⟩ := hv2.iface
  have hb2 : ad2[i]? = some b := by
    obtain ⟨⟨u, rfl, _⟩, _⟩ := hg2
    rw [List.getElem?_append_left (List.getElem?_eq_some_iff.1 hb).1]; exact hb
  have hi2 : p1.2.1[i]? = some ⟨C x y, none⟩ := by rw [hu1]; exact st_up hi u1
  obtain ⟨c1, c2⟩ := two_cells hC hs2 hi2 hb2 (hg2.rv hvx) (hg2.rv hvy)
  refine ⟨T2, z2, rfl, c1, c2, ?_⟩
  refine (ih p1.2.1 y p1.2.2 p2 h2 w2 ad2 vy mb hs2 hw2 (hg2.rv hvy) hm2).mono ?_
  rintro e w3 ⟨v3, ad3, rfl, hv3, hs3, hw3, hm3, hg3⟩
  obtain ⟨T3, z3, rfl⟩ := hv3.iface
  have hb3 : ad3[i]? = some b := by
    obtain ⟨⟨u, rfl, _⟩, _⟩ := hg3
    rw [List.getElem?_append_left (List.getElem?_eq_some_iff.1 hb2).1]; exact hb2
  have hi3 : p2.2.1[i]? = some ⟨C x y, none⟩ := by rw [hu2]; exact st_up hi2 u2
  obtain ⟨d1, d2⟩ := two_cells hC hs3 hi3 hb3 (hg3.rv (hg2.rv hvx)) (hg3.rv (hg2.rv hvy))
  refine ⟨T3, z3, rfl, d1, d2, ?_⟩
  have hka : Kept w3 (w3.alloc (.cells #[.nilIface, .iface T2 z2, .iface T3 z3] tT)) := Kept.alloc _ _
  exact ⟨_, ad3 ++ [w3.heap.size], rfl, RV.last hs3.len k, (hs3.kept hka).add hw3 (fun z => by have := hs3.lt z; omega) (heap_alloc_new _ _) ((hC _ _ _ _).2 ⟨_, _, hg3.rv hv2, hv3, rfl⟩), hw3.add _, (hm3.kt (Kt.of_kept (ad := ad) (S := fun _ => False) hka) id).up _ _, (Gw.pre hk1 hg2).trans (hg3.trans (Gw.snoc (Kt.of_kept hka) (Nat.le_refl _)))⟩
set_option maxRecDepth 20000 in
set_option maxHeartbeats 2000000 in
theorem ins_sx : ∀ n, SIns n := by
  intro n
  induction n with
  | zero => intro σ r m p h; simp [instF] at h
  | succ n ih =>
    intro σ r m p h w ad v mb hs hw hv hm
    simp only [instF, Option.bind_eq_some_iff] at h
    obtain ⟨r0, hr, h⟩ := h
    have hr := repF_rp _ hr
    have HK : Hid _ := known_se hr w v hs hv
    have HIH : Hid _ := ih
    have HR : Hid _ := hr.root_of
    have HM : Hid _ := hm
    have HW : Hid _ := hw
    have HH : Hid _ := h
    obtain ⟨T, u, rfl⟩ := hv.iface
    have HMO : Hid (∀ {w1 w2 : World}, Kt ad (fun _ => False) w1 w2 → Kt ad (fun q => q = mb) w1 w2) := fun k => k.mono (fun _ _ z => z.elim)
    clear hs hr hv ih hm hw h
    go_enter Tryz.func220, Tryz.ntmps220
    go_wp2_with fail
    refine Calls.mono HK.out ?_
    rintro e w1 ⟨v0, rfl, hv0, hs1, hk1⟩
    have HS1 : Hid _ := hs1
    have HK1 : Hid _ := HMO.out hk1
    have HM1 : Hid _ := VV.kt HM.out hk1 id
    clear HK hs1 hk1 HM HMO
    cases r0 with
    | int =>
      rw [show v0 = _ from hv0]
      have hh := HH.out
      simp only [Option.some.injEq] at hh
      have HF : Hid (InO w mb ad p (.returned (.iface 343 (.agg #[.string { data := #[105, 110, 116] }]))) w1) := by
        rw [← hh]
        exact ⟨_, ad, rfl, rfl, HS1.out, HW.out, HM1.out, Gw.of HK1.out⟩
      have q0 := Tryz.tbBV (.agg #[.string { data := #[105, 110, 116] }]) w1
      have q1 := Tryz.tbBL (.agg #[.string { data := #[105, 110, 116] }]) w1
      have q2 := Tryz.tbBP (.agg #[.string { data := #[105, 110, 116] }]) w1
      have q3 := Tryz.taBA (.agg #[.string { data := #[105, 110, 116] }]) w1
      clear hh hv0 HIH HR
      go_wp2
      go_ret
      exact HF.out
    | bool =>
      rw [show v0 = _ from hv0]
      have hh := HH.out
      simp only [Option.some.injEq] at hh
      have HF : Hid (InO w mb ad p (.returned (.iface 343 (.agg #[.string { data := #[98, 111, 111, 108] }]))) w1) := by
        rw [← hh]
        exact ⟨_, ad, rfl, rfl, HS1.out, HW.out, HM1.out, Gw.of HK1.out⟩
      have q0 := Tryz.tbBV (.agg #[.string { data := #[98, 111, 111, 108] }]) w1
      have q1 := Tryz.tbBL (.agg #[.string { data := #[98, 111, 111, 108] }]) w1
      have q2 := Tryz.tbBP (.agg #[.string { data := #[98, 111, 111, 108] }]) w1
      have q3 := Tryz.taBA (.agg #[.string { data := #[98, 111, 111, 108] }]) w1
      clear hh hv0 HIH HR
      go_wp2
      go_ret
      exact HF.out
    | nd k i =>
      obtain ⟨nk, rfl, hi⟩ := HR.out.rt
      obtain ⟨b, hb, rfl⟩ := hv0
      have hh := HH.out
      simp only [hi] at hh
      cases nk with
      | vr nm g =>
        have FIN : Hid (∀ (c : Nat) (r' : TR) (σ' : St) (m' : List (Nat × Nat)), p = (r', σ', m') → ∀ (e : Ending) (w' : World), FvO w1 mb ad σ' r' m' e w' → ∃ c, e = .returned (.pointer (some ⟨c, 0, none⟩)) ∧ InO w mb ad p (.returned (.iface 216 (.pointer (some ⟨c, 0, none⟩)))) w') := by
          rintro _ r' σ' m' rfl e w' ⟨c, ad', e1, e2, e3, e4, e5, e6⟩
          exact ⟨c, e1, _, ad', rfl, e2, e3, e4, e5, Gw.pre HK1.out e6⟩
        have HC : Hid (Calls Tryz.prog 232 #[.map (some mb), .pointer (some ⟨b, 0, none⟩)] w1 fun e w' => ∃ c, e = .returned (.pointer (some ⟨c, 0, none⟩)) ∧ InO w mb ad p (.returned (.iface 216 (.pointer (some ⟨c, 0, none⟩)))) w') := by
          cases g with
          | false =>
            simp only [Option.some.injEq] at hh
            exact (fvar_old hi hb HS1.out HW.out HM1.out).mono (fun e w' h => FIN.out 0 _ _ _ hh.symm e w' h)
          | true =>
            simp only at hh
            split at hh
            · rename_i j hj
              simp only [Option.some.injEq] at hh
              exact (fvar_hit hi hb hj HS1.out HW.out HM1.out).mono (fun e w' h => FIN.out 0 _ _ _ hh.symm e w' h)
            · rename_i hj
              simp only [Option.some.injEq] at hh
              exact (fvar_new hi hb hj HS1.out HW.out HM1.out).mono (fun e w' h => FIN.out 0 _ _ _ hh.symm e w' h)
        have q0 := Tryz.taVV (.pointer (some ⟨b, 0, none⟩)) w1
        simp only [NK.kd, Kd.tp]
        clear hh FIN HIH HR hi hb HH
        go_wp2_with fail
        refine Calls.mono HC.out ?_
        rintro e w2 ⟨c, rfl, hF⟩
        have HF : Hid _ := hF
        clear hF HC
        go_wp2
        go_ret
        exact HF.out
      | ls x =>
        simp only [Option.bind_eq_some_iff, Option.some.injEq] at hh
        obtain ⟨p1, h1, hp⟩ := hh
        obtain ⟨o, ho, hn⟩ := SX.blk HS1.out hi hb
        obtain ⟨vx, hvx, rfl⟩ := hn
        have c1 : w1.cell? ⟨b, 1, none⟩ = some vx := by simp [World.cell?, ho]
        obtain ⟨Tx, ux, rfl⟩ := hvx.iface
        have q0 := Tryz.taLV (.pointer (some ⟨b, 0, none⟩)) w1
        have q1 := Tryz.taLL (.pointer (some ⟨b, 0, none⟩)) w1
        have HC : Hid _ := HIH.out σ x m p1 h1 w1 ad _ mb HS1.out HW.out hvx HM1.out
        have HP : Hid _ := hp
        simp only [NK.kd, Kd.tp]
        clear hi hb ho hvx h1 hp HIH HR HH
        go_wp2_with fail
        refine Calls.mono HC.out ?_
        rintro e w2 ⟨v2, ad2, rfl, hv2, hs2, hw2, hm2, hg2⟩
        obtain ⟨T2, u2, rfl⟩ := hv2.iface
        have HF : Hid (InO w mb ad p (.returned (.iface 222 (.pointer (some ⟨w2.heap.size, 0, none⟩)))) (w2.alloc (.cells #[.nilIface, .iface T2 u2] 225))) := by
          rw [← HP.out]
          have hka : Kept w2 (w2.alloc (.cells #[.nilIface, .iface T2 u2] 225)) := Kept.alloc _ _
          exact ⟨_, ad2 ++ [w2.heap.size], rfl, RV.last hs2.len .ls, (hs2.kept hka).add hw2 (fun z => by have := hs2.lt z; omega) (heap_alloc_new _ _) ⟨_, hv2, rfl⟩, hw2.add _, (hm2.kt (Kt.of_kept (ad := ad) (S := fun _ => False) hka) id).up _ _, (Gw.pre HK1.out hg2).trans (Gw.snoc (Kt.of_kept hka) (Nat.le_refl _))⟩
        clear hv2 hs2 hw2 hm2 hg2 HC
        go_wp2
        go_ret
        exact HF.out
      | pr x y =>
        simp only [Option.bind_eq_some_iff, Option.some.injEq] at hh
        obtain ⟨p1, h1, p2, h2, hp⟩ := hh
        obtain ⟨o, ho, hn⟩ := SX.blk HS1.out hi hb
        obtain ⟨vx, vy, hvx, hvy, rfl⟩ := hn
        have hkd : Kept w1 w1.drew := Kept.drew w1
        have ho' := hkd.blk ho
        have c1 : w1.drew.cell? ⟨b, 1, none⟩ = some vx := by simp [World.cell?, ho']
        have c2 : w1.drew.cell? ⟨b, 2, none⟩ = some vy := by simp [World.cell?, ho']
        obtain ⟨Tx, ux, rfl⟩ := hvx.iface
        obtain ⟨Ty, uy, rfl⟩ := hvy.iface
        have HC : Hid _ := ins_aux n HIH.out (C := .pr) (k := .pr) (tT := 229) (fun _ _ => rfl) (fun _ _ _ _ => Iff.rfl) h1 h2 (w := w) (SX.kept HS1.out hkd) HW.out (VV.kt HM1.out (Kt.of_kept (ad := ad) (S := fun _ => False) hkd) id) (HK1.out.trans (Kt.of_kept hkd)) hvx hvy hi hb
        have HP : Hid _ := hp
        have q0 := Tryz.taPV (.pointer (some ⟨b, 0, none⟩)) w1
        have q1 := Tryz.taPL (.pointer (some ⟨b, 0, none⟩)) w1
        have q2 := Tryz.taPP (.pointer (some ⟨b, 0, none⟩)) w1
        simp only [NK.kd, Kd.tp]
        clear hi hb ho hvx hvy h1 h2 hp HR HH ho' hkd HIH
        go_wp2_with fail
        go_region_held3 (fun w' => w'.cell? ⟨b, 1, none⟩ = some (.iface Tx ux) ∧ w'.cell? ⟨b, 2, none⟩ = some (.iface Ty uy)) (go_keep) (first | (go_at_call 220; refine Calls.mono HC.out ?_; rintro e w2 ⟨T2, u2, rfl, j1, j2, HD⟩; clear HC) | (go_at_call 220; refine Calls.mono HD.out ?_; rintro e w3 ⟨T3, u3, rfl, k1, k2, HF⟩; clear HD))
        all_goals
          go_wp2
          go_ret
          have hp := HP.out
          rw [← hp]
          exact HF.out
      | ar x y =>
        simp only [Option.bind_eq_some_iff, Option.some.injEq] at hh
        obtain ⟨p1, h1, p2, h2, hp⟩ := hh
        obtain ⟨o, ho, hn⟩ := SX.blk HS1.out hi hb
        obtain ⟨vx, vy, hvx, hvy, rfl⟩ := hn
        have hkd : Kept w1 w1.drew := Kept.drew w1
        have ho' := hkd.blk ho
        have c1 : w1.drew.cell? ⟨b, 1, none⟩ = some vx := by simp [World.cell?, ho']
        have c2 : w1.drew.cell? ⟨b, 2, none⟩ = some vy := by simp [World.cell?, ho']
        obtain ⟨Tx, ux, rfl⟩ := hvx.iface
        obtain ⟨Ty, uy, rfl⟩ := hvy.iface
        have HC : Hid _ := ins_aux n HIH.out (C := .ar) (k := .ar) (tT := 233) (fun _ _ => rfl) (fun _ _ _ _ => Iff.rfl) h1 h2 (w := w) (SX.kept HS1.out hkd) HW.out (VV.kt HM1.out (Kt.of_kept (ad := ad) (S := fun _ => False) hkd) id) (HK1.out.trans (Kt.of_kept hkd)) hvx hvy hi hb
        have HP : Hid _ := hp
        have q0 := Tryz.taAV (.pointer (some ⟨b, 0, none⟩)) w1
        have q1 := Tryz.taAL (.pointer (some ⟨b, 0, none⟩)) w1
        have q2 := Tryz.taAP (.pointer (some ⟨b, 0, none⟩)) w1
        have q3 := Tryz.taAA (.pointer (some ⟨b, 0, none⟩)) w1
        simp only [NK.kd, Kd.tp]
        clear hi hb ho hvx hvy h1 h2 hp HR HH ho' hkd HIH
        go_wp2_with fail
        go_region_held3 (fun w' => w'.cell? ⟨b, 1, none⟩ = some (.iface Tx ux) ∧ w'.cell? ⟨b, 2, none⟩ = some (.iface Ty uy)) (go_keep) (first | (go_at_call 220; refine Calls.mono HC.out ?_; rintro e w2 ⟨T2, u2, rfl, j1, j2, HD⟩; clear HC) | (go_at_call 220; refine Calls.mono HD.out ?_; rintro e w3 ⟨T3, u3, rfl, k1, k2, HF⟩; clear HD))
        all_goals
          go_wp2
          go_ret
          have hp := HP.out
          rw [← hp]
          exact HF.out
end Go.Proofs.YtleenphlgbklmaaGreatDoor

namespace Go.Proofs.YtleenphlgbklmaaGreatDoor
open Go.RowKit

def VKv (σ : St) (m : List (Nat × Nat)) : Prop := ∀ e, e ∈ m → ∃ nd, σ[e.2]? = some nd ∧ nd.k.kd = .vr
def PrO (w : World) (mb : Nat) (ad : List Nat) (σ : St) (p : Bool × List (Nat × Nat)) (e : Ending) (w' : World) : Prop := e = .returned (.bool p.1) ∧ SX w' ad σ ∧ VV w' mb ad σ p.2 ∧ VKv σ p.2 ∧ Kt ad (fun q => q = mb) w w'
end Go.Proofs.YtleenphlgbklmaaGreatDoor

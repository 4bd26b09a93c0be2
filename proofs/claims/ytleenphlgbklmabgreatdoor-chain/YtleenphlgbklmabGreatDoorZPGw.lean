import Derived.Test.YtleenphlgbklmabGreatDoorZPGv
set_option linter.unusedVariables false
set_option linter.unusedSimpArgs false
namespace Go.Proofs.YtleenphlgbklmabGreatDoor
open Go.RowKit

section
variable {ω : Type} (A : Nat → Addr) (B : Nat) (K : World → ω → Prop)
/-- how a round ends. -/
def RnO (ad : List Nat) (w : World) (e : Ending) (w' : World) (o : ω) : Oc (List TR × St) → Prop
  | .ok q => ∃ g vals ad', e = .returned (.slice (some ⟨g, 0, none⟩) q.1.length q.1.length) ∧ w.heap.size ≤ g ∧ TRow w' g vals ∧ RVs ad' q.1 vals ∧ SX w' ad' q.2 ∧ WS q.2 ∧ K w' o ∧ Gk B ad ad' w w'
  | .er j => Thr A j e ∧ K w' o ∧ Kw B ad w w'
end
/-- a round, by the program's steps. -/
def rnd1 {ω : Type} (typ : X → St → ω → Option (Oc (TR × St) × ω)) (values : List X) (own : List Bd) (σ : St) (o : ω) : Option (Oc (List TR × St) × ω) :=
  (valsF typ values σ o).bind fun r => match r with
    | (.er j, o) => some (.er j, o)
    | (.ok p, o) => (boundF p.2 own []).bind fun bd => (gensF p.2 bd p.1).bind fun σ1 => some (.ok (p.1, σ1), o)
/-- what is left to type, behind what is typed. -/
def vrest {ω : Type} (typ : X → St → ω → Option (Oc (TR × St) × ω)) (ts : List TR) (xs : List X) (σ : St) (o : ω) : Option (Oc (List TR × St) × ω) :=
  (valsF typ xs σ o).bind fun r => match r with
    | (.er j, o) => some (.er j, o)
    | (.ok q, o) => some (.ok (ts ++ q.1, q.2), o)
theorem vrest_zero {ω : Type} (typ : X → St → ω → Option (Oc (TR × St) × ω)) (xs : List X) (σ : St) (o : ω) : vrest typ [] xs σ o = valsF typ xs σ o := by
  unfold vrest
  cases h : valsF typ xs σ o with
  | none => rfl
  | some r =>
    obtain ⟨r, o1⟩ := r
    cases r <;> rfl
theorem vrest_ok {ω : Type} (typ : X → St → ω → Option (Oc (TR × St) × ω)) (ts : List TR) (x : X) (xs : List X) (σ : St) (o : ω) {p : TR × St} {o1 : ω} (h : typ x σ o = some (.ok p, o1)) : vrest typ ts (x :: xs) σ o = vrest typ (ts ++ [p.1]) xs p.2 o1 := by
  unfold vrest
  simp only [valsF, h, Option.bind_some]
  cases h2 : valsF typ xs p.2 o1 with
  | none => rfl
  | some r =>
    obtain ⟨r, o2⟩ := r
    cases r with
    | er j => rfl
    | ok q => simp
theorem vrest_er {ω : Type} (typ : X → St → ω → Option (Oc (TR × St) × ω)) (ts : List TR) (x : X) (xs : List X) (σ : St) (o : ω) {j : Nat} {o1 : ω} (h : typ x σ o = some (.er j, o1)) : vrest typ ts (x :: xs) σ o = some (.er j, o1) := by
  unfold vrest
  simp only [valsF, h, Option.bind_some]
theorem vrest_nil {ω : Type} (typ : X → St → ω → Option (Oc (TR × St) × ω)) (ts : List TR) (σ : St) (o : ω) : vrest typ ts [] σ o = some (.ok (ts, σ), o) := by simp [vrest, valsF]
section
variable {ω : Type} {A : Nat → Addr} {B : Nat} {K : World → ω → Prop} {gv : Gv} {fuel : Nat} {wv : Value}
/-- the watcher keeps what it has, while a row of types is written. -/
def KRw (K : World → ω → Prop) : Prop := ∀ (w : World) (o : ω) (g : Nat) (vals : Array Value) (j : Nat) (v : Value), K w o → w.heap[g]? = some (.cells vals 77 (0, 0)) → K (w.setCell ⟨g, j, none⟩ v) o
theorem TI.row (hK : KRw K) {w : World} {ad : List Nat} {σ : St} {own : List Bd} {p : Option Addr} {gm : Nat} {o : ω} (h : TI A B K w ad σ own gv p gm o) {g : Nat} {vals : Array Value} (hg : w.heap[g]? = some (.cells vals 77 (0, 0))) (hB : B ≤ g) (j : Nat) (v : Value) : TI A B K (w.setCell ⟨g, j, none⟩ v) ad σ own gv p gm o := by
  have hne : ∀ q, q ≠ g → (w.setCell ⟨g, j, none⟩ v).heap[q]? = w.heap[q]? := fun q hq => Below.heap_setCell _ _ _ q (fun z => hq z)
  refine ⟨h.sx.keep (fun b o hb ho => (hne b (fun z => ?_)).trans ho), h.ws, h.ga.low (by simp) (fun q hq => hne q (by omega)), h.ch.keep (fun q cs f hq => (hne q (fun z => ?_)).trans hq), ?_, hK _ _ _ _ _ _ h.k hg⟩
  · subst z
    obtain ⟨τ, hτ, _⟩ := h.sx
    obtain ⟨o', ho', ht⟩ := hτ.tb hb
    rw [hg] at ho'
    cases ho'
    exact absurd ht not_tb
  · rw [z, hg] at hq
    simp at hq
  · obtain ⟨l, h1, h2⟩ := h.gm
    exact ⟨l, (hne gm (fun z => by rw [z, hg] at h1; cases h1)).trans h1, h2⟩
theorem Gk.row {w wr : World} {a b : List Nat} (h : Gk B a b w wr) {g : Nat} (hg : w.heap.size ≤ g) (j : Nat) (v : Value) : Gk B a b w (wr.setCell ⟨g, j, none⟩ v) :=
  ⟨h.up, ⟨h.kw.os, h.kw.output, by simpa using h.kw.size, fun q o hq h1 h2 => (Below.heap_setCell _ _ _ q (fun z => by have := lt_of_block hq; have z : q = g := z; omega)).trans (h.kw.blk q o hq h1 h2)⟩⟩
/-- what stands while a round types. -/
structure RI (w : World) (ad : List Nat) (fl : Int) (own own2 : List Bd) (p p2 : Option Addr) (gm n : Nat) (ts : List TR) (σ : St) (o : ω) (wr : World) (ad2 : List Nat) (vals : List Value) : Prop where
  by0 : wr.heap[w.heap.size]? = some (.cells #[.int .i64 fl, wv] 103 (0, 0))
  sc : wr.heap[w.heap.size + 1]? = some (.cells #[.pointer p2, .map (some gm)] 168 (0, 0))
  so : wr.heap[w.heap.size + 1 + 1]? = some (.cells #[.pointer p, .map (some gm)] 168 (0, 0))
  row : wr.heap[w.heap.size + 1 + 1 + 1]? = some (.cells (vals ++ List.replicate (n - vals.length) Value.nilIface).toArray 77 (0, 0))
  rv : RVs ad2 ts vals
  ti : TI A B K wr ad2 σ own gv p gm o
  ch : CH wr (RV ad2) own2 (.pointer p2)
  gk : Gk B ad ad2 w wr
theorem RVs.snoc {ad : List Nat} {ts : List TR} {vals : List Value} {t : TR} {v : Value} (h : RVs ad ts vals) (hv : RV ad t v) : RVs ad (ts ++ [t]) (vals ++ [v]) := by
  refine ⟨by simp [h.1], fun j h1 h2 => ?_⟩
  by_cases hj : j < ts.length
  · have hj2 : j < vals.length := by rw [h.1]; exact hj
    rw [List.getElem_append_left hj, List.getElem_append_left hj2]
    exact h.2 j hj hj2
  · have e1 : j = ts.length := by simp at h1; omega
    have e2 : j = vals.length := by rw [h.1]; exact e1
    have a1 : (ts ++ [t])[j] = t := by simp [e1]
    have a2 : (vals ++ [v])[j] = v := by simp [e2]
    rw [a1, a2]
    exact hv
theorem RVs.gk {w w' : World} {a b : List Nat} (g : Gk B a b w w') {ts : List TR} {vals : List Value} (h : RVs a ts vals) : RVs b ts vals := ⟨h.1, fun j h1 h2 => g.rv (h.2 j h1 h2)⟩
theorem RI.step (hR : KRw K) {w : World} {ad : List Nat} {fl : Int} {own own2 : List Bd} {p p2 : Option Addr} {gm n : Nat} {ts : List TR} {σ : St} {o : ω} {wr : World} {ad2 : List Nat} {vals : List Value} (h : RI (A := A) (B := B) (K := K) (gv := gv) (wv := wv) w ad fl own own2 p p2 gm n ts σ o wr ad2 vals) (hn : vals.length < n) {q : TR × St} {v : Value} {ad3 : List Nat} {w2 : World} {o1 : ω} (hv : RV ad3 q.1 v) (hT : TI A B K w2 ad3 q.2 own2 gv p2 gm o1) (hg : Gk B ad2 ad3 wr w2) (hB : B ≤ w.heap.size) :
    RI (A := A) (B := B) (K := K) (gv := gv) (wv := wv) w ad fl own own2 p p2 gm n (ts ++ [q.1]) q.2 o1 (w2.setCell ⟨w.heap.size + 1 + 1 + 1, vals.length, none⟩ v) ad3 (vals ++ [v]) := by
  have hrow := hg.oth (by decide) h.row
  have hne : ∀ q, q ≠ w.heap.size + 1 + 1 + 1 → (w2.setCell ⟨w.heap.size + 1 + 1 + 1, vals.length, none⟩ v).heap[q]? = w2.heap[q]? := fun q hq => Below.heap_setCell _ _ _ q (fun z => hq z)
  have hT1 : TI A B K w2 ad3 q.2 own gv p gm o1 := ⟨hT.sx, hT.ws, hT.ga, hg.ch h.ti.ch, hT.gm, hT.k⟩
  refine ⟨(hne _ (by omega)).trans (hg.oth (by decide) h.by0), (hne _ (by omega)).trans (hg.oth (by decide) h.sc), (hne _ (by omega)).trans (hg.oth (by decide) h.so), ?_, (h.rv.gk hg).snoc hv, hT1.row hR hrow (by omega) _ _, (hT.row hR hrow (by omega) _ _).ch, (h.gk.trans hg).row (by omega) _ _⟩
  rw [rep_cons hn] at hrow
  have := row_set hrow vals.length rfl v
  rw [this, List.length_append, List.length_singleton, List.append_assoc]
  rfl
end
end Go.Proofs.YtleenphlgbklmabGreatDoor

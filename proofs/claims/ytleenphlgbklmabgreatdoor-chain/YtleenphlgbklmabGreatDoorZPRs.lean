import Derived.Test.YtleenphlgbklmabGreatDoorZPMq
import Derived.Test.YtleenphlgbklmabGreatDoorZAsZ
import Derived.Test.YtleenphlgbklmabGreatDoorZPVar
import Derived.Test.YtleenphlgbklmabGreatDoorZPWu
set_option linter.unusedVariables false
set_option linter.unusedSimpArgs false
namespace Go.Proofs.YtleenphlgbklmabGreatDoor
open Go.RowKit

/-- what the laws' own infer answers: the text, the fault's number, where, and the name. -/
def IfO.t : IfO → ByteArray
  | .txt t => t
  | _ => { data := #[] }
def IfO.what : IfO → Int
  | .txt _ => 0
  | .sen j => senNo j
  | .unb _ _ => 4
def IfO.loc : IfO → Int
  | .unb l _ => l
  | _ => 0
def IfO.s : IfO → ByteArray
  | .unb _ n => n
  | _ => { data := #[] }
end Go.Proofs.YtleenphlgbklmabGreatDoor

namespace Go.Proofs.YtleenphlgbklmabGreatDoor
open Go.RowKit

/-- what a text is typed to under a watcher that stops at the stop-th round, and what the watcher has seen. -/
def inferW (stop fl : Nat) (s : ByteArray) : Option (IfO × List Rdt) :=
  (exO s).bind fun x => (gvF [] [] []).bind fun g => (chkF true g.1 500 x []).bind fun ck => match ck with
    | some _ => none
    | none => (typF (tlW stop) true g.1 fl 500 x [] g.2 []).bind fun r => match r.1 with
      | .er j => if j < 8 then some (.sen j, r.2) else none
      | .ok q => (treeF 500 q.2 q.1).bind fun t => if sz t ≤ 120 then some (.txt (canT t), r.2) else none
theorem wth_any {A : Nat → Addr} {B stop fl : Nat} {s : ByteArray} {r : IfO} {o : List Rdt} (h : inferW stop fl s = some (r, o)) (h1 : 1 ≤ fl) (h2 : fl ≤ 12) (hst : stop ≤ 1000000) : WtH A B s fl stop r.t o r.what r.loc r.s := by
  intro W em wb ob mb fb sb hGA hWK hS
  simp only [inferW, Option.bind_eq_some_iff] at h
  obtain ⟨x, hx, ⟨gv, σ⟩, hgv, ck, hck, h⟩ := h
  cases ck with
  | some q => cases h
  | none =>
    simp only [Option.bind_eq_some_iff] at h
    obtain ⟨⟨res, o'⟩, hr, h⟩ := h
    have HT := tot_w (mb := mb) (fb := fb) W hGA hWK hst hS (by simp) (by simp) (List.Perm.refl _) List.Pairwise.nil h1 h2 hx hgv hck hr rfl
    have hlow : ∀ w', Kw B [] W w' → Glb A w' := fun w' hk => hGA.glb.low hGA.ab hGA.gb (fun q hq => by
      have hq' : q < W.heap.size := Nat.lt_of_lt_of_le hq hGA.sz
      have e : W.heap[q]? = some W.heap[q] := by simp [hq']
      rw [e]
      exact hk.blk q _ e (fun _ => hq) (fun _ z => by simp at z))
    cases res with
    | er j =>
      simp only at h
      split at h
      · rename_i hj
        simp only [Option.some.injEq, Prod.mk.injEq] at h
        obtain ⟨rfl, rfl⟩ := h
        refine (watchw_err s em fl W (fun T z w' => T = 342 ∧ z = .pointer (some (A j)) ∧ Kw B [] W w' ∧ WK B wb ob sb stop w' o') (HT.mono (fun e w' hE => ?_))).mono ?_
        · obtain ⟨⟨hk, hwk⟩, hE⟩ := hE
          have hE : e = _ := hE
          subst hE
          exact ⟨_, _, rfl, rfl, rfl, hk, hwk⟩
        · rintro e w' ⟨T, z, rfl, HR⟩
          obtain ⟨rfl, rfl, hk, hwk⟩ := HR.out
          exact ⟨_, rfl, .inr ⟨_, _, rfl⟩, hk, hwk, fun w2 hk2 => fault_sen w2 ((hlow w' hk).kept hk2) j hj⟩
      · cases h
    | ok q =>
      simp only [Option.bind_eq_some_iff] at h
      obtain ⟨t, ht, h⟩ := h
      split at h
      · rename_i hsz'
        simp only [Option.some.injEq, Prod.mk.injEq] at h
        obtain ⟨rfl, rfl⟩ := h
        refine (watchw_ok (B := B) (stop := stop) (o := o') s em fl W t hsz' (HT.mono (fun e w' hE => ?_))).mono ?_
        · obtain ⟨⟨hk, hwk⟩, T, u, ad, rfl, hv, hs, ha⟩ := hE
          exact ⟨_, ad, q.2, q.1, rfl, hs, hv, treeF_dn _ ht, ha, hk, hwk⟩
        · rintro e w' ⟨rfl, hk, hwk⟩
          exact ⟨_, rfl, .inl rfl, hk, hwk, fun w2 hk2 => (fault_nil w2).mono (fun e w'' ⟨a1, a2⟩ => ⟨a1, Kept.below a2⟩)⟩
      · cases h
end Go.Proofs.YtleenphlgbklmabGreatDoor

namespace Go.Proofs.YtleenphlgbklmabGreatDoor
open Go.RowKit

theorem rdCs_get : ∀ (o : List Rdt) (ps : List Rpt) (j : Nat) (h : j < o.length) (h2 : j < ps.length), (rdCs o ps)[3 * j]? = some (.slice (some ⟨ps[j].1, 0, none⟩) o[j].1.length ps[j].2.1) ∧ (rdCs o ps)[3 * j + 1]? = some (.int .i64 o[j].2.1) ∧ (rdCs o ps)[3 * j + 2]? = some (.slice (some ⟨ps[j].2.2.1, 0, none⟩) o[j].2.2.length ps[j].2.2.2)
  | [], _, _, h, _ => by simp at h
  | _ :: _, [], _, _, h => by simp at h
  | r :: o, p :: ps, 0, _, _ => by simp [rdCs, rdV]
  | r :: o, p :: ps, j + 1, h, h2 => by
    have ih := rdCs_get o ps j (by simpa using h) (by simpa using h2)
    have e : ∀ k, (rdCs (r :: o) (p :: ps))[k + 3]? = (rdCs o ps)[k]? := fun k => by simp [rdCs, rdV]
    exact ⟨(e (3 * j)).trans ih.1, (e (3 * j + 1)).trans ih.2.1, (e (3 * j + 2)).trans ih.2.2⟩
/-- the rounds that a watcher has kept, as they lie in memory. -/
structure Rds (w : World) (g : Nat) (o : List Rdt) (ps : List Rpt) : Prop where
  a0 : ∀ j (h : j < o.length) (h2 : j < ps.length), w.cell? ⟨g, 3 * j, none⟩ = some (.slice (some ⟨ps[j].1, 0, none⟩) o[j].1.length ps[j].2.1)
  a1 : ∀ j (h : j < o.length) (h2 : j < ps.length), w.cell? ⟨g, 3 * j + 1, none⟩ = some (.int .i64 o[j].2.1)
  a2 : ∀ j (h : j < o.length) (h2 : j < ps.length), w.cell? ⟨g, 3 * j + 2, none⟩ = some (.slice (some ⟨ps[j].2.2.1, 0, none⟩) o[j].2.2.length ps[j].2.2.2)
  n0 : ∀ j (h : j < o.length) (h2 : j < ps.length), SRw w ps[j].1 o[j].1
  n2 : ∀ j (h : j < o.length) (h2 : j < ps.length), SRw w ps[j].2.2.1 o[j].2.2
theorem Rds.kept {w w' : World} {g : Nat} {o : List Rdt} {ps : List Rpt} (h : Rds w g o ps) (k : Kept w w') : Rds w' g o ps := ⟨fun j a b => k.cell (h.a0 j a b), fun j a b => k.cell (h.a1 j a b), fun j a b => k.cell (h.a2 j a b), fun j a b => (h.n0 j a b).kept k, fun j a b => (h.n2 j a b).kept k⟩
theorem rds_own {w : World} {N g cc : Nat} {o : List Rdt} {ps : List Rpt} (hl : ps.length = o.length) (h : w.ownsRow N 39 3 (.slice (some ⟨g, 0, none⟩) o.length cc) o.length (rdCs o ps)) (hr : ∀ j (h : j < o.length) (h2 : j < ps.length), SRw w ps[j].1 o[j].1 ∧ SRw w ps[j].2.2.1 o[j].2.2) : Rds w g o ps :=
  ⟨fun j a b => (h.cellAt (3 * j) (by omega)).trans (rdCs_get o ps j a b).1, fun j a b => (h.cellAt (3 * j + 1) (by omega)).trans (rdCs_get o ps j a b).2.1, fun j a b => (h.cellAt (3 * j + 2) (by omega)).trans (rdCs_get o ps j a b).2.2, fun j a b => (hr j a b).1, fun j a b => (hr j a b).2⟩
theorem watch_rds {A : Nat → Addr} {w : World} {s : ByteArray} {fl stop : Nat} {r : IfO} {o : List Rdt} (hG : Glb A w) (h : inferW stop fl s = some (r, o)) (ho : o ≠ []) (h1 : 1 ≤ fl) (h2 : fl ≤ 12) (hst : stop ≤ 1000000) : Calls Tryz.prog 13 #[.string s, .slice none 0 0, .slice none 0 0, .int .i64 fl, .int .i64 stop, .string { data := #[] }] w fun e w' => ∃ g cc ps, e = .returned (.agg #[.slice (some ⟨g, 0, none⟩) o.length cc, .string r.t, .int .i64 r.what, .int .i64 r.loc, .string r.s, .int .i64 0, .int .i64 0, .bool false, .slice none 0 0, .slice none 0 0]) ∧ o.length ≤ cc ∧ cc ≤ maxLen ∧ ps.length = o.length ∧ Rds w' g o ps ∧ Kept w w' := by
  refine (pl_watch hG (wth_any h h1 h2 hst)).mono ?_
  rintro e w' ⟨ao, cc, ps, rfl, hl, how, hr, hk⟩
  rcases how.2 with ⟨_, e2⟩ | ⟨g, cap, cur, e, _, _, e3, e4, _⟩
  · exact absurd (List.length_eq_zero_iff.1 e2) ho
  · simp only [Value.slice.injEq, true_and] at e
    obtain ⟨rfl, rfl⟩ := e
    exact ⟨g, cc, ps, rfl, e3, e4, hl, rds_own hl how hr, hk⟩
end Go.Proofs.YtleenphlgbklmabGreatDoor

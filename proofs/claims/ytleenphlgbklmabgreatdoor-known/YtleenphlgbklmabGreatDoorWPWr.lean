import Derived.Test.YtleenphlgbklmabGreatDoorWPSt
import Derived.Test.YtleenphlgbklmabGreatDoorWTree
import Derived.Test.YtleenphlgbklmabGreatDoorWPSc
import Derived.Test.YtleenphlgbklmabGreatDoorWPDep
import Derived.Deep.RegionHeld3
import Derived.Deep.RegionHeld2
import Derived.Test.YtleenphlgbklmabGreatDoorWPSign
set_option linter.unusedVariables false
set_option linter.unusedSimpArgs false
namespace Go.Proofs.YtleenphlgbklmabGreatDoor
open Go.RowKit

section
variable {ω : Type} (tl : List ByteArray → Nat → List TR → St → ω → Option (Oc Unit × ω))
/-- the types of the values, one after another. -/
def valsF (typ : X → St → ω → Option (Oc (TR × St) × ω)) : List X → St → ω → Option (Oc (List TR × St) × ω)
  | [], σ, o => some (.ok ([], σ), o)
  | x :: xs, σ, o => (typ x σ o).bind fun r => match r with
    | (.er j, o) => some (.er j, o)
    | (.ok p, o) => (valsF typ xs p.2 o).bind fun r => match r with
      | (.er j, o) => some (.er j, o)
      | (.ok q, o) => some (.ok (p.1 :: q.1, q.2), o)
/-- the rounds of a group: so many may follow. -/
def rndF (typ : X → List Bd → St → ω → Option (Oc (TR × St) × ω)) (names : List ByteArray) (values : List X) (own : List Bd) (fuel : Nat) : Nat → Nat → List TR → St → ω → Option (Oc (List TR × St) × ω)
  | 0, _, _, _, _ => none
  | k + 1, round, ahead, σ, o =>
    (valsF (fun x => typ x (grpF names ahead own)) values σ o).bind fun r => match r with
    | (.er j, o) => some (.er j, o)
    | (.ok p, o) => (boundF p.2 own []).bind fun bd => (gensF p.2 bd p.1).bind fun σ1 => (tl names round p.1 σ1 o).bind fun r => match r with
      | (.er j, o) => some (.er j, o)
      | (.ok _, o) => (samesF σ1 ahead p.1).bind fun b => if b then some (.ok (p.1, σ1), o) else if round == fuel then some (.er 5, o) else rndF typ names values own fuel k (round + 1) p.1 σ1 o
def nameF (gv : Gv) (n : ByteArray) (own : List Bd) (σ : St) : Option (Oc (TR × St)) :=
  (findF n gv own).bind fun s => (bigF σ s).bind fun b => if b then some (.er 4) else (instF 500 σ s []).bind fun p => some (.ok (p.1, p.2.1))
def funF (f : X → List Bd → St → ω → Option (Oc (TR × St) × ω)) (m : ByteArray) (b : X) (own : List Bd) (σ : St) (o : ω) : Option (Oc (TR × St) × ω) :=
  (f b (⟨m, .nd .vr σ.length, true⟩ :: own) (σ ++ [newV]) o).bind fun r => match r with
  | (.er j, o) => some (.er j, o)
  | (.ok p, o) => some (.ok (.nd .ar p.2.length, p.2 ++ [⟨.ar (.nd .vr σ.length) p.1, none⟩]), o)
def ifF (f : X → List Bd → St → ω → Option (Oc (TR × St) × ω)) (x y z : X) (own : List Bd) (σ : St) (o : ω) : Option (Oc (TR × St) × ω) :=
  (f x own σ o).bind fun r => match r with
  | (.er j, o) => some (.er j, o)
  | (.ok p, o) => (eqF 500 p.2 p.1 .bool).bind fun q => match q with
    | .er j => some (.er j, o)
    | .ok σ1 => (f y own σ1 o).bind fun r => match r with
      | (.er j, o) => some (.er j, o)
      | (.ok p, o) => (f z own p.2 o).bind fun r => match r with
        | (.er j, o) => some (.er j, o)
        | (.ok p2, o) => (eqF 500 p2.2 p.1 p2.1).bind fun q => match q with
          | .er j => some (.er j, o)
          | .ok σ2 => some (.ok (p.1, σ2), o)
def letF (f : X → List Bd → St → ω → Option (Oc (TR × St) × ω)) (m : ByteArray) (x y : X) (own : List Bd) (σ : St) (o : ω) : Option (Oc (TR × St) × ω) :=
  (f x own σ o).bind fun r => match r with
  | (.er j, o) => some (.er j, o)
  | (.ok p, o) => (boundF p.2 own []).bind fun bd => (genF 500 p.2 p.1 bd).bind fun σ1 => f y (⟨m, p.1, false⟩ :: own) σ1 o
def appF (f : X → List Bd → St → ω → Option (Oc (TR × St) × ω)) (x y : X) (own : List Bd) (σ : St) (o : ω) : Option (Oc (TR × St) × ω) :=
  (f x own σ o).bind fun r => match r with
  | (.er j, o) => some (.er j, o)
  | (.ok p, o) => (f y own (p.2 ++ [newV]) o).bind fun r => match r with
    | (.er j, o) => some (.er j, o)
    | (.ok q, o) => (eqF 500 (q.2 ++ [⟨.ar q.1 (.nd .vr p.2.length), none⟩]) p.1 (.nd .ar q.2.length)).bind fun e => match e with
      | .er j => some (.er j, o)
      | .ok σ1 => some (.ok (.nd .vr p.2.length, σ1), o)
def twoF (f : X → List Bd → St → ω → Option (Oc (TR × St) × ω)) (x y : X) (own : List Bd) (σ : St) (o : ω) : Option (Oc (TR × St) × ω) :=
  (f x own σ o).bind fun r => match r with
  | (.er j, o) => some (.er j, o)
  | (.ok p, o) => (f y own p.2 o).bind fun r => match r with
    | (.er j, o) => some (.er j, o)
    | (.ok q, o) => some (.ok (.nd .pr q.2.length, q.2 ++ [⟨.pr p.1 q.1, none⟩]), o)
def recF (f : X → List Bd → St → ω → Option (Oc (TR × St) × ω)) (fuel : Nat) (names : List ByteArray) (vs : List X) (y : X) (own : List Bd) (σ : St) (o : ω) : Option (Oc (TR × St) × ω) :=
  if names.length ≤ 1000000 then (rndF tl f names vs own fuel fuel 1 (anyF names.length σ).1 (anyF names.length σ).2 o).bind fun r => match r with
  | (.er j, o) => some (.er j, o)
  | (.ok p, o) => f y (grpF names p.1 own) p.2 o
  else none
/-- the type of an expression, by what it is; let rec only where rk. -/
def kndF (rk : Bool) (gv : Gv) (fuel : Nat) (f : X → List Bd → St → ω → Option (Oc (TR × St) × ω)) : X → List Bd → St → ω → Option (Oc (TR × St) × ω)
  | .mk op names kids _, own, σ, o =>
    if bq op { data := #[110, 97, 109, 101] } then match names with
      | [m] => (nameF gv m own σ).bind fun r => some (r, o)
      | _ => none
    else if bq op { data := #[110, 117, 109] } then some (.ok (.int, σ), o)
    else if bq op { data := #[102, 117, 110] } then match names, kids with
      | [m], [b] => funF f m b own σ o
      | _, _ => none
    else if bq op { data := #[105, 102] } then match kids with
      | [x, y, z] => ifF f x y z own σ o
      | _ => none
    else if bq op { data := #[108, 101, 116] } then match names, kids with
      | [m], [x, y] => letF f m x y own σ o
      | _, _ => none
    else if bq op { data := #[97, 112, 112] } then match kids with
      | [x, y] => appF f x y own σ o
      | _ => none
    else if bq op { data := #[112, 97, 105, 114] } then match kids with
      | [x, y] => twoF f x y own σ o
      | _ => none
    else if rk && bq op { data := #[114, 101, 99] } then match kids.reverse with
      | y :: vs => recF tl f fuel names vs.reverse y own σ o
      | [] => none
    else none
/-- the type of an expression. -/
def typF (rk : Bool) (gv : Gv) (fuel : Nat) : Nat → X → List Bd → St → ω → Option (Oc (TR × St) × ω)
  | 0, _, _, _, _ => none
  | n + 1, x, own, σ, o =>
    (kndF tl rk gv fuel (fun x own σ o => typF rk gv fuel n x own σ o) x own σ o).bind fun r => match r with
    | (.er j, o) => some (.er j, o)
    | (.ok p, o) => (bigF p.2 p.1).bind fun b => if b then some (.er 4, o) else some (.ok p, o)
end
/-- a type's tree; variables by their place in the store. -/
def treeF : Nat → St → TR → Option Ty
  | 0, _, _ => none
  | n + 1, σ, r => (repF 500 σ r).bind fun r0 => match r0 with
    | .int => some (.mk { data := #[105, 110, 116] } 0 [])
    | .bool => some (.mk { data := #[98, 111, 111, 108] } 0 [])
    | .nd _ i => match σ[i]? with
      | some ⟨.vr _ _, none⟩ => some (.mk { data := #[] } i [])
      | some ⟨.ls x, none⟩ => (treeF n σ x).bind fun a => some (.mk { data := #[108, 105, 115, 116] } 0 [a])
      | some ⟨.pr x y, none⟩ => (treeF n σ x).bind fun a => (treeF n σ y).bind fun c => some (.mk { data := #[112, 97, 105, 114] } 0 [a, c])
      | some ⟨.ar x y, none⟩ => (treeF n σ x).bind fun a => (treeF n σ y).bind fun c => some (.mk { data := #[102, 117, 110] } 0 [a, c])
      | _ => none
/-- without a watcher. -/
def tlN : List ByteArray → Nat → List TR → St → Unit → Option (Oc Unit × Unit) := fun _ _ _ _ o => some (.ok (), o)
end Go.Proofs.YtleenphlgbklmabGreatDoor

namespace Go.Proofs.YtleenphlgbklmabGreatDoor
open Go.RowKit

/-- a block of the watcher's. -/
def WB (o : Obj) : Prop := ∃ cs e f, o = .cells cs e f ∧ (e = 39 ∨ e = 36)
/-- all is as it was, but for the store's types and the watcher's blocks. -/
structure Kw (B : Nat) (ad : List Nat) (w w' : World) : Prop where
  os : w'.os = w.os
  output : w'.output = w.output
  size : w.heap.size ≤ w'.heap.size
  blk : ∀ (k : Nat) (o : Obj), w.heap[k]? = some o → (WB o → k < B) → (TB o → ¬ k ∈ ad) → w'.heap[k]? = some o
theorem Kw.of {B : Nat} {ad : List Nat} {w w' : World} (h : Kt ad (fun _ => False) w w') : Kw B ad w w' := ⟨h.os, h.output, h.size, fun k o hk _ ht => h.blk0 k o hk id ht⟩
/-- what a call that types leaves. -/
structure Gk (B : Nat) (ad ad' : List Nat) (w w' : World) : Prop where
  up : ∃ u, ad' = ad ++ u ∧ ∀ q, q ∈ u → w.heap.size ≤ q
  kw : Kw B ad w w'
theorem Gk.of {B : Nat} {ad ad' : List Nat} {w w' : World} (h : Gw (fun _ => False) ad ad' w w') : Gk B ad ad' w w' := ⟨h.up, Kw.of h.kt⟩
theorem Gk.ofKt {B : Nat} {ad : List Nat} {w w' : World} (h : Kt ad (fun _ => False) w w') : Gk B ad ad w w' := Gk.of (Gw.of h)
theorem Gk.ofKw {B : Nat} {ad : List Nat} {w w' : World} (h : Kw B ad w w') : Gk B ad ad w w' := ⟨⟨[], by simp, by simp⟩, h⟩
theorem Gk.trans {B : Nat} {a b c : List Nat} {w1 w2 w3 : World} (h : Gk B a b w1 w2) (g : Gk B b c w2 w3) : Gk B a c w1 w3 := by
  obtain ⟨⟨u, rfl, hu⟩, k⟩ := h
  obtain ⟨⟨u2, rfl, hu2⟩, k2⟩ := g
  refine ⟨⟨u ++ u2, by simp, ?_⟩, ⟨k2.os.trans k.os, k2.output.trans k.output, Nat.le_trans k.size k2.size, ?_⟩⟩
  · intro q hq
    simp at hq
    rcases hq with hq | hq
    · exact hu q hq
    · exact Nat.le_trans k.size (hu2 q hq)
  · intro q o hq hw ht
    refine k2.blk q o (k.blk q o hq hw ht) hw (fun z y => ?_)
    simp at y
    rcases y with y | y
    · exact ht z y
    · have := hu q y
      have := lt_of_block hq
      omega
theorem Gk.rv {B : Nat} {a b : List Nat} {w1 w2 : World} (h : Gk B a b w1 w2) {r : TR} {v : Value} (hv : RV a r v) : RV b r v := by
  obtain ⟨⟨u, rfl, hu⟩, _⟩ := h
  exact hv.up u
theorem Gk.ga {A : Nat → Addr} {B : Nat} {a b : List Nat} {w1 w2 : World} (h : Gk B a b w1 w2) (g : GA A B a w1) : GA A B b w2 := by
  obtain ⟨⟨u, rfl, hu⟩, k⟩ := h
  have h1 : GA A B a w2 := g.low k.size (fun q hq => by
    have e : w1.heap[q]? = some (w1.heap[q]'(Nat.lt_of_lt_of_le hq g.sz)) := by simp
    rw [e]
    exact k.blk q _ e (fun _ => hq) (fun _ z => by have := g.lo q z; omega))
  exact ⟨h1.glb, fun q hq => by
    simp at hq
    rcases hq with hq | hq
    · exact g.lo q hq
    · exact Nat.le_trans g.sz (hu q hq), h1.sz, h1.ab, h1.gb⟩
theorem Gk.x {B : Nat} {a b : List Nat} {w1 w2 : World} (h : Gk B a b w1 w2) : XKeep w1 w2 := fun k cs e f he hk => h.kw.blk k _ hk (by
    rintro ⟨cs', e', f', hx, ht⟩
    simp only [Obj.cells.injEq] at hx
    obtain ⟨_, rfl, _⟩ := hx
    rcases ht with rfl | rfl <;> simp [isXT] at he) (by
    rintro ⟨cs', e', f', hx, ht⟩
    simp only [Obj.cells.injEq] at hx
    obtain ⟨_, rfl, _⟩ := hx
    rcases ht with rfl | rfl | rfl | rfl <;> simp [isXT] at he)
theorem Gk.ch {B : Nat} {a b : List Nat} {w1 w2 : World} (h : Gk B a b w1 w2) {l : List Bd} {v : Value} (hc : CH w1 (RV a) l v) : CH w2 (RV b) l v := by
  have := hc.keep (w' := w2) (fun q cs f hq => h.kw.blk q _ hq (by
    rintro ⟨cs', e', f', hx, ht⟩
    simp only [Obj.cells.injEq] at hx
    obtain ⟨_, rfl, _⟩ := hx
    rcases ht with e | e <;> cases e) (by
    rintro ⟨cs', e', f', hx, ht⟩
    simp only [Obj.cells.injEq] at hx
    obtain ⟨_, rfl, _⟩ := hx
    rcases ht with e | e | e | e <;> cases e))
  exact this.mono (fun r v => h.rv)
theorem Gk.gm {B : Nat} {a b : List Nat} {w1 w2 : World} (h : Gk B a b w1 w2) {g : Gv} {gm : Nat} (hg : GM w1 gm a g) : GM w2 gm b g := by
  obtain ⟨⟨u, rfl, hu⟩, k⟩ := h
  obtain ⟨l, h1, h2⟩ := hg
  exact ⟨l, k.blk _ _ h1 (by rintro ⟨cs, e, f, he, _⟩; cases he) (by rintro ⟨cs, e, f, he, _⟩; cases he), h2.up u⟩
section
variable {ω : Type} (A : Nat → Addr) (B : Nat) (K : World → ω → Prop)
/-- what stands when an expression is typed. -/
structure TI (w : World) (ad : List Nat) (σ : St) (own : List Bd) (gv : Gv) (p : Option Addr) (gm : Nat) (o : ω) : Prop where
  sx : SX w ad σ
  ws : WS σ
  ga : GA A B ad w
  ch : CH w (RV ad) own (.pointer p)
  gm : GM w gm ad gv
  k : K w o
/-- the watcher keeps what it has, while types are made. -/
def KOk : Prop := ∀ (w w' : World) (ad : List Nat) (o : ω), K w o → Kt ad (fun _ => False) w w' → K w' o
/-- how a call that types ends. -/
def TyO (ad : List Nat) (w : World) (e : Ending) (w' : World) (o : ω) : Oc (TR × St) → Prop
  | .ok q => ∃ v ad', e = .returned v ∧ RV ad' q.1 v ∧ SX w' ad' q.2 ∧ WS q.2 ∧ K w' o ∧ Gk B ad ad' w w'
  | .er j => Thr A j e ∧ K w' o ∧ Kw B ad w w'
end
section
variable {ω : Type} {A : Nat → Addr} {B : Nat} {K : World → ω → Prop} {w w' : World} {ad ad' : List Nat} {σ σ' : St} {own : List Bd} {gv : Gv} {p : Option Addr} {gm : Nat} {o o' : ω}
theorem TI.to (h : TI A B K w ad σ own gv p gm o) (g : Gk B ad ad' w w') (hs : SX w' ad' σ') (hw : WS σ') (hk : K w' o') : TI A B K w' ad' σ' own gv p gm o' := ⟨hs, hw, g.ga h.ga, g.ch h.ch, g.gm h.gm, hk⟩
theorem TI.kept (hK : KOk K) (h : TI A B K w ad σ own gv p gm o) (k : Kept w w') : TI A B K w' ad σ own gv p gm o := h.to (Gk.ofKt (Kt.of_kept k)) (h.sx.kept k) h.ws (hK _ _ [] _ h.k (Kt.of_kept k))
theorem TyO.pre {e : Ending} {r : Oc (TR × St)} {w1 : World} {ad1 : List Nat} (g : Gk B ad ad1 w w1) (h : TyO A B K ad1 w1 e w' o r) : TyO A B K ad w e w' o r := by
  cases r with
  | ok q =>
    obtain ⟨v, ad', h1, h2, h3, h4, h5, h6⟩ := h
    exact ⟨v, ad', h1, h2, h3, h4, h5, g.trans h6⟩
  | er j =>
    obtain ⟨h1, h2, h3⟩ := h
    exact ⟨h1, h2, (g.trans (Gk.ofKw h3)).kw⟩
end
def RbO (A : Nat → Addr) (ad : List Nat) (σ : St) (w : World) (big : Bool) (e : Ending) (w' : World) : Prop := (big = true ∧ Thr A 4 e ∧ Kt ad (fun _ => False) w w') ∨ (big = false ∧ e = .returned (.tuple #[]) ∧ SX w' ad σ ∧ Kt ad (fun _ => False) w w')
set_option maxRecDepth 20000 in
theorem rbig_sx {A : Nat → Addr} {B : Nat} {σ : St} {r : TR} {big : Bool} (h : bigF σ r = some big) (w : World) (ad : List Nat) (v : Value) (hG : GA A B ad w) (hs : SX w ad σ) (hv : RV ad r v) : Calls Tryz.prog 107 #[v] w (RbO A ad σ w big) := by
  have HA : Hid _ := above_sx h w ad v hs hv
  have HG : Hid _ := hG
  obtain ⟨T, u, rfl⟩ := hv.iface
  clear hs hv h hG
  go_enter Tryz.func107, Tryz.ntmps107
  go_wp2_with fail
  refine Calls.mono HA.out ?_
  rintro e w1 ⟨rfl, hs1, hk1⟩
  have hg := (HG.out.kt0 hk1).glb.c4
  have HS : Hid _ := hs1
  have HK : Hid _ := hk1
  clear hs1 hk1 HA
  cases big with
  | true =>
    have HR : Hid _ := prefuse_es (A 4) w1
    go_wp2_with fail
    refine Calls.mono HR.out ?_
    rintro e w' ⟨rfl, hww⟩
    rw [hww]
    clear hww w' HR
    go_wp2
    exact ⟨rfl, .inl ⟨rfl, rfl, HK.out⟩⟩
  | false =>
    go_wp2
    exact bodyPost_end (results_none Tryz.results107 _ _ _) rfl (.inr ⟨rfl, rfl, HS.out, HK.out⟩)
end Go.Proofs.YtleenphlgbklmabGreatDoor

namespace Go.Proofs.YtleenphlgbklmabGreatDoor
open Go.RowKit

theorem Tryz.mkFr (w : World) : (Instr.makeMap 313 none).run Tryz.prog w = .ok (.map (some w.heap.size)) (w.alloc (.map #[] 0)) := by kernel_rfl
theorem VV.none (w : World) (ad : List Nat) (σ : St) : VV (w.alloc (.map #[] 0)) w.heap.size ad σ [] := ⟨[], heap_alloc_new _ _, trivial, fun e he => by simp at he⟩
theorem Gw.drop {ad ad' : List Nat} {w w1 w' : World} {mb : Nat} (h : Kept w w1) (g : Gw (fun q => q = mb) ad ad' w1 w') (hm : w.heap.size ≤ mb) : Gw (fun _ => False) ad ad' w w' := by
  obtain ⟨⟨u, hu, hq⟩, k⟩ := g
  exact ⟨⟨u, hu, fun q z => Nat.le_trans h.size (hq q z)⟩, Kt.drop h k hm⟩
theorem find_sx {w : World} {ad : List Nat} {own : List Bd} {gv : Gv} {p : Option Addr} {gm : Nat} {n : ByteArray} {r : TR} (hC : CH w (RV ad) own (.pointer p)) (hG : GM w gm ad gv) (h : findF n gv own = some r) :
    Calls Tryz.prog 103 #[.agg #[.pointer p, .map (some gm)], .string n] w fun e w' => Kept w w' ∧ ∃ T u, e = .returned (.tuple #[.iface T u, .bool true]) ∧ RV ad r (.iface T u) := by
  rw [findF_own] at h
  cases hg : findG n gv with
  | some g =>
    obtain ⟨v, hv, _⟩ := (look_gm hG n).1 g hg
    refine (find_own (x := v) (y := .bool true) hC (fun W hW => ?_)).mono ?_
    · obtain ⟨v', hv', hl⟩ := (look_gm (hG.kt (Kt.of_kept (ad := ad) (S := fun _ => False) hW) id) n).1 g hg
      rw [hv.det hv']
      exact hl
    · rintro e w' ⟨hk, h1, h2⟩
      refine ⟨hk, ?_⟩
      cases ho : findO n own with
      | some q =>
        rw [ho] at h
        simp only [Option.some.injEq] at h
        subst h
        obtain ⟨v, rfl, hv⟩ := h1 _ ho
        obtain ⟨T, u, rfl⟩ := hv.iface
        exact ⟨T, u, rfl, hv⟩
      | none =>
        rw [ho] at h
        simp only [hg, Option.some.injEq] at h
        subst h
        obtain ⟨T, u, rfl⟩ := hv.iface
        exact ⟨T, u, h2 ho, hv⟩
  | none =>
    refine (find_own (x := .nilIface) (y := .bool false) hC (fun W hW => ?_)).mono ?_
    · exact (look_gm (hG.kt (Kt.of_kept (ad := ad) (S := fun _ => False) hW) id) n).2 hg
    · rintro e w' ⟨hk, h1, h2⟩
      refine ⟨hk, ?_⟩
      cases ho : findO n own with
      | some q =>
        rw [ho] at h
        simp only [Option.some.injEq] at h
        subst h
        obtain ⟨v, rfl, hv⟩ := h1 _ ho
        obtain ⟨T, u, rfl⟩ := hv.iface
        exact ⟨T, u, rfl, hv⟩
      | none =>
        rw [ho, hg] at h
        simp at h
set_option maxRecDepth 20000 in
set_option maxHeartbeats 2000000 in
theorem tname_sx {ω : Type} {A : Nat → Addr} {B : Nat} {K : World → ω → Prop} (hK : KOk K) {w : World} {ad : List Nat} {σ : St} {own : List Bd} {gv : Gv} {p : Option Addr} {gm : Nat} {o : ω} (hT : TI A B K w ad σ own gv p gm o) {n : ByteArray} {loc eb : Nat} (hb : w.heap[eb]? = some (.cells #[.int .i64 1, .string n, .int .i64 loc] 239 (0, 0))) {r : Oc (TR × St)} (h : nameF gv n own σ = some r) :
    Calls Tryz.prog 142 #[.pointer (some ⟨eb, 0, none⟩), .agg #[.pointer p, .map (some gm)]] w fun e w' => TyO A B K ad w e w' o r := by
  simp only [nameF, Option.bind_eq_some_iff] at h
  obtain ⟨s, hs, big, hbig, h⟩ := h
  have hka : Kept w (w.alloc (.cells #[.pointer p, .map (some gm)] 168)) := Kept.alloc _ _
  have hn0 := heap_alloc_new w (.cells #[.pointer p, .map (some gm)] 168)
  go_enter Tryz.func142, Tryz.ntmps142
  go_wp2_with fail
  generalize w.alloc (.cells #[.pointer p, .map (some gm)] 168) = W at *
  have hkd : Kept w W.drew := hka.trans (Kept.drew W)
  have hn0 := (Kept.drew W).blk hn0
  have hbd := hkd.blk hb
  have hT1 := hT.kept hK hkd
  have HC : Hid _ := find_sx hT1.ch hT1.gm hs
  have HT1 : Hid _ := hT1
  have HKD : Hid _ := hkd
  have HKA : Hid _ := hka
  have HT : Hid _ := hT
  have HBIG : Hid _ := hbig
  have HH : Hid _ := h
  have HKEEP : Hid (∀ w2, Kept W.drew w2 → w2.cell? ⟨w.heap.size, 0, none⟩ = some (.pointer p) ∧ w2.cell? ⟨w.heap.size, 1, none⟩ = some (.map (some gm)) ∧ w2.cell? ⟨eb, 1, none⟩ = some (.string n)) := fun w2 k => by
    have e1 := k.blk hn0
    have e2 := k.blk hbd
    exact ⟨by simp [World.cell?, e1], by simp [World.cell?, e1], by simp [World.cell?, e2]⟩
  have c0 : W.drew.cell? ⟨w.heap.size, 0, none⟩ = some (.pointer p) := by simp [World.cell?, hn0]
  have c1 : W.drew.cell? ⟨w.heap.size, 1, none⟩ = some (.map (some gm)) := by simp [World.cell?, hn0]
  have c2 : W.drew.cell? ⟨eb, 1, none⟩ = some (.string n) := by simp [World.cell?, hbd]
  clear hT1 hka hkd hT hbig h hs hb hbd hn0
  go_region_held3 (fun w' => w'.cell? ⟨w.heap.size, 0, none⟩ = some (.pointer p) ∧ w'.cell? ⟨w.heap.size, 1, none⟩ = some (.map (some gm)) ∧ w'.cell? ⟨eb, 1, none⟩ = some (.string n)) (go_keep) (first | (go_at_call 103; refine Calls.mono HC.out ?_; rintro e w2 ⟨hk2, T, u, rfl, hv2⟩; obtain ⟨j0, j1, j2⟩ := HKEEP.out w2 hk2; have HK2 : Hid _ := hk2; have HV2 : Hid _ := hv2; clear hk2 hv2 HC))
  all_goals
    have hkk := HKD.out.trans HK2.out
    have hT2 := HT.out.kept hK hkk
    have HT2 : Hid _ := hT2
    have HR : Hid _ := rbig_sx HBIG.out w2 ad _ hT2.ga hT2.sx HV2.out
    have HKK : Hid _ := hkk
    clear hkk hT2 HT1 HK2 HKEEP j0 j1 j2 c0 c1 c2
    go_wp2_with fail
    refine Calls.mono HR.out ?_
    rintro e w3 (⟨rfl, he, hk3⟩ | ⟨rfl, rfl, hs3, hk3⟩)
    · have hh := HH.out
      simp only [if_true, Option.some.injEq] at hh
      subst hh
      rw [show e = _ from he]
      have HF : Hid (TyO A B K ad w (thrown (.iface 342 (.pointer (some (A 4))))) w3 o (.er 4)) := ⟨rfl, hK _ _ _ _ HT2.out.k hk3, ((Gk.ofKt (Kt.of_kept HKK.out)).trans (Gk.ofKt hk3)).kw⟩
      clear he hk3 HR
      go_wp2
      exact ⟨rfl, HF.out⟩
    · have hh := HH.out
      simp only [Bool.false_eq_true, if_false, Option.bind_eq_some_iff, Option.some.injEq] at hh
      obtain ⟨q, hq, rfl⟩ := hh
      have m1 := Tryz.mkFr w3
      have hka : Kept w3 (w3.alloc (.map #[] 0)) := Kept.alloc _ _
      have HI : Hid _ := ins_sx 500 σ s [] q hq (w3.alloc (.map #[] 0)) ad _ w3.heap.size (hs3.kept hka) HT2.out.ws HV2.out (VV.none w3 ad σ)
      have HK3 : Hid _ := hk3
      have HKA3 : Hid _ := hka
      have HKW : Hid _ := hK _ _ _ _ HT2.out.k hk3
      clear hs3 hk3 hka hq HR
      go_wp2_with fail
      refine Calls.mono HI.out ?_
      rintro e w4 ⟨v4, ad4, rfl, hv4, hs4, hw4, hm4, hg4⟩
      have hg5 := Gw.drop HKA3.out hg4 (Nat.le_refl _)
      have HF : Hid (TyO A B K ad w (.returned v4) w4 o (.ok (q.1, q.2.1))) := ⟨v4, ad4, rfl, hv4, hs4, hw4, hK _ _ _ _ HKW.out hg5.kt, ((Gk.ofKt (Kt.of_kept HKK.out)).trans (Gk.ofKt HK3.out)).trans (Gk.of hg5)⟩
      clear hv4 hs4 hw4 hm4 hg4 hg5 HI
      go_wp2
      go_ret
      exact HF.out
end Go.Proofs.YtleenphlgbklmabGreatDoor

namespace Go.Proofs.YtleenphlgbklmabGreatDoor
open Go.RowKit

/-- a kind of block that typing does not change. -/
def othT (e : TypeId) : Bool := !(e == 148 || e == 152 || e == 156 || e == 160 || e == 39 || e == 36)
theorem Gk.oth {B : Nat} {a b : List Nat} {w1 w2 : World} (h : Gk B a b w1 w2) {k : Nat} {cs : Array Value} {e : TypeId} {f : Nat × Nat} (he : othT e = true) (hk : w1.heap[k]? = some (.cells cs e f)) : w2.heap[k]? = some (.cells cs e f) := h.kw.blk k _ hk (by
    rintro ⟨cs', e', f', hx, ht⟩
    simp only [Obj.cells.injEq] at hx
    obtain ⟨_, rfl, _⟩ := hx
    rcases ht with rfl | rfl <;> simp [othT] at he) (by
    rintro ⟨cs', e', f', hx, ht⟩
    simp only [Obj.cells.injEq] at hx
    obtain ⟨_, rfl, _⟩ := hx
    rcases ht with rfl | rfl | rfl | rfl <;> simp [othT] at he)
/-- a frame of typing: what it was handed, and the expression. -/
structure FX (V : World) (b1 b2 eb : Nat) (fl : Int) (wv : Value) (p : Option Addr) (gm : Nat) (cs : Array Value) (et : TypeId) : Prop where
  by0 : V.heap[b1]? = some (.cells #[.int .i64 fl, wv] 103 (0, 0))
  sc : V.heap[b2]? = some (.cells #[.pointer p, .map (some gm)] 168 (0, 0))
  ex : V.heap[eb]? = some (.cells cs et (0, 0))
section
variable {V V' : World} {b1 b2 eb : Nat} {fl : Int} {wv : Value} {p : Option Addr} {gm : Nat} {cs : Array Value} {et : TypeId}
theorem FX.gk (h : FX V b1 b2 eb fl wv p gm cs et) {B : Nat} {a b : List Nat} (g : Gk B a b V V') (he : othT et = true) : FX V' b1 b2 eb fl wv p gm cs et := ⟨g.oth (by decide) h.by0, g.oth (by decide) h.sc, g.oth he h.ex⟩
theorem FX.kept (h : FX V b1 b2 eb fl wv p gm cs et) (k : Kept V V') : FX V' b1 b2 eb fl wv p gm cs et := ⟨k.blk h.by0, k.blk h.sc, k.blk h.ex⟩
theorem FX.c (h : FX V b1 b2 eb fl wv p gm cs et) : V.cell? ⟨b1, 0, none⟩ = some (.int .i64 fl) ∧ V.cell? ⟨b1, 1, none⟩ = some wv ∧ V.cell? ⟨b2, 0, none⟩ = some (.pointer p) ∧ V.cell? ⟨b2, 1, none⟩ = some (.map (some gm)) := ⟨by simp [World.cell?, h.by0], by simp [World.cell?, h.by0], by simp [World.cell?, h.sc], by simp [World.cell?, h.sc]⟩
theorem FX.x (h : FX V b1 b2 eb fl wv p gm cs et) {i : Nat} {v : Value} (hv : cs[i]? = some v) : V.cell? ⟨eb, i, none⟩ = some v := by simp [World.cell?, h.ex, hv]
end
theorem fx_start (w : World) (eb : Nat) (fl : Int) (wv : Value) (p : Option Addr) (gm : Nat) {cs : Array Value} {et : TypeId} (hb : w.heap[eb]? = some (.cells cs et (0, 0))) : FX ((w.alloc (.cells #[.int .i64 fl, wv] 103)).alloc (.cells #[.pointer p, .map (some gm)] 168)) w.heap.size (w.heap.size + 1) eb fl wv p gm cs et ∧ Kept w ((w.alloc (.cells #[.int .i64 fl, wv] 103)).alloc (.cells #[.pointer p, .map (some gm)] 168)) := by
  have k1 : Kept w (w.alloc (.cells #[.int .i64 fl, wv] 103)) := Kept.alloc _ _
  have k2 : Kept (w.alloc (.cells #[.int .i64 fl, wv] 103)) ((w.alloc (.cells #[.int .i64 fl, wv] 103)).alloc (.cells #[.pointer p, .map (some gm)] 168)) := Kept.alloc _ _
  have hs : (w.alloc (.cells #[.int .i64 fl, wv] 103)).heap.size = w.heap.size + 1 := by simp
  refine ⟨⟨k2.blk (heap_alloc_new _ _), ?_, (k1.trans k2).blk hb⟩, k1.trans k2⟩
  rw [← hs]
  exact heap_alloc_new _ _
section
variable {ω : Type} (A : Nat → Addr) (B : Nat) (K : World → ω → Prop) (gv : Gv) (fl : Int) (wv : Value)
/-- the program's typeOf does what the mirror does. -/
def STf (f : X → List Bd → St → ω → Option (Oc (TR × St) × ω)) : Prop := ∀ (x : X) (own : List Bd) (σ : St) (o : ω) (res : Oc (TR × St) × ω), f x own σ o = some res → ∀ (w : World) (ad : List Nat) (v : Value) (p : Option Addr) (gm : Nat), PX w (fun _ => True) x v → TI A B K w ad σ own gv p gm o →
  Calls Tryz.prog 73 #[.agg #[.int .i64 fl, wv], v, .agg #[.pointer p, .map (some gm)]] w fun e w' => TyO A B K ad w e w' res.2 res.1
end
theorem PX.gk {w w' : World} {B : Nat} {a b : List Nat} (g : Gk B a b w w') {x : X} {v : Value} (h : PX w (fun _ => True) x v) : PX w' (fun _ => True) x v := h.keepT g.x
theorem XKeep.kept {w w' : World} (k : Kept w w') : XKeep w w' := fun _ _ _ _ _ h => k.blk h
theorem STf.call {ω : Type} {A : Nat → Addr} {B : Nat} {K : World → ω → Prop} {gv : Gv} {fl : Int} {wv : Value} {f : X → List Bd → St → ω → Option (Oc (TR × St) × ω)} (hf : STf A B K gv fl wv f) {x : X} {own : List Bd} {σ : St} {o o1 : ω} {r1 : Oc (TR × St)} (h : f x own σ o = some (r1, o1)) {w : World} {ad : List Nat} {v : Value} {p : Option Addr} {gm : Nat} (hx : PX w (fun _ => True) x v) (hT : TI A B K w ad σ own gv p gm o) :
    Calls Tryz.prog 73 #[.agg #[.int .i64 fl, wv], v, .agg #[.pointer p, .map (some gm)]] w fun e w' => (∃ j, r1 = .er j ∧ e = thrown (.iface 342 (.pointer (some (A j)))) ∧ K w' o1 ∧ Kw B ad w w') ∨ (∃ q T u ad', r1 = .ok q ∧ e = .returned (.iface T u) ∧ RV ad' q.1 (.iface T u) ∧ TI A B K w' ad' q.2 own gv p gm o1 ∧ Gk B ad ad' w w') := by
  refine (hf x own σ o (r1, o1) h w ad v p gm hx hT).mono ?_
  intro e w' hE
  cases r1 with
  | er j => exact .inl ⟨j, rfl, hE.1, hE.2.1, hE.2.2⟩
  | ok q =>
    obtain ⟨v', ad', rfl, h2, h3, h4, h5, h6⟩ := hE
    obtain ⟨T, u, rfl⟩ := h2.iface
    exact .inr ⟨q, T, u, ad', rfl, rfl, h2, hT.to h6 h3 h4 h5, h6⟩
/-- a new arrow, laid behind. -/
theorem SX.newa {w : World} {ad : List Nat} {σ : St} (hs : SX w ad σ) (hw : WS σ) {x y : TR} {p q : Value} (hp : RV ad x p) (hq : RV ad y q) : SX (w.alloc (.cells #[.nilIface, p, q] 160)) (ad ++ [w.heap.size]) (σ ++ [⟨.ar x y, none⟩]) :=
  (hs.kept (Kept.alloc _ _)).add hw (fun z => by have := hs.lt z; omega) (heap_alloc_new _ _) ⟨p, q, hp, hq, rfl⟩
theorem SX.newp {w : World} {ad : List Nat} {σ : St} (hs : SX w ad σ) (hw : WS σ) {x y : TR} {p q : Value} (hp : RV ad x p) (hq : RV ad y q) : SX (w.alloc (.cells #[.nilIface, p, q] 156)) (ad ++ [w.heap.size]) (σ ++ [⟨.pr x y, none⟩]) :=
  (hs.kept (Kept.alloc _ _)).add hw (fun z => by have := hs.lt z; omega) (heap_alloc_new _ _) ⟨p, q, hp, hq, rfl⟩
theorem Gk.new {B : Nat} {ad : List Nat} (w : World) (o : Obj) : Gk B ad (ad ++ [w.heap.size]) w (w.alloc o) := Gk.of (Gw.snoc (Kt.of_kept (Kept.alloc _ _)) (Nat.le_refl _))
set_option maxRecDepth 20000 in
set_option maxHeartbeats 4000000 in
theorem tapp_sx {ω : Type} {A : Nat → Addr} {B : Nat} {K : World → ω → Prop} (hK : KOk K) {gv : Gv} {fl : Int} {wv : Value} {f : X → List Bd → St → ω → Option (Oc (TR × St) × ω)} (hf : STf A B K gv fl wv f) {x y : X} {own : List Bd} {σ : St} {o : ω} {res : Oc (TR × St) × ω} (h : appF f x y own σ o = some res) {w : World} {ad : List Nat} {p : Option Addr} {gm : Nat} (hT : TI A B K w ad σ own gv p gm o) {eb dpt : Nat} {vx vy : Value} (hb : w.heap[eb]? = some (.cells #[.int .i64 dpt, vx, vy] 254 (0, 0))) (hx : PX w (fun _ => True) x vx) (hy : PX w (fun _ => True) y vy) :
    Calls Tryz.prog 146 #[.agg #[.int .i64 fl, wv], .pointer (some ⟨eb, 0, none⟩), .agg #[.pointer p, .map (some gm)]] w fun e w' => TyO A B K ad w e w' res.2 res.1 := by
  simp only [appF, Option.bind_eq_some_iff] at h
  obtain ⟨⟨r1, o1⟩, h1, h⟩ := h
  obtain ⟨hF, hk0⟩ := fx_start w eb fl wv p gm hb
  obtain ⟨Tx, ux, rfl⟩ := hx.iface
  obtain ⟨Ty, uy, rfl⟩ := hy.iface
  go_enter Tryz.func146, Tryz.ntmps146
  go_wp2_with fail
  generalize (w.alloc (.cells #[.int .i64 fl, wv] 103)).alloc (.cells #[.pointer p, .map (some gm)] 168) = W at *
  have hkd : Kept w W.drew := hk0.trans (Kept.drew W)
  have hF := hF.kept (Kept.drew W)
  have hT1 := hT.kept hK hkd
  have hPY := PX.keepT (XKeep.kept hkd) hy
  have hG0 : Gk B ad ad w W.drew := Gk.ofKt (Kt.of_kept hkd)
  have HC : Hid (Calls Tryz.prog 73 #[.agg #[.int .i64 fl, wv], .iface Tx ux, .agg #[.pointer p, .map (some gm)]] W.drew fun e w2 => (∃ a, e = thrown (.iface 342 (.pointer (some a))) ∧ TyO A B K ad w (thrown (.iface 342 (.pointer (some a)))) w2 res.2 res.1) ∨ (∃ T2 u2, e = .returned (.iface T2 u2) ∧ w2.cell? ⟨w.heap.size, 0, none⟩ = some (.int .i64 fl) ∧ w2.cell? ⟨w.heap.size, 1, none⟩ = some wv ∧ w2.cell? ⟨w.heap.size + 1, 0, none⟩ = some (.pointer p) ∧ w2.cell? ⟨w.heap.size + 1, 1, none⟩ = some (.map (some gm)) ∧ w2.cell? ⟨eb, 1, none⟩ = some (.iface Tx ux) ∧ Hid (∃ q ad2, r1 = .ok q ∧ RV ad2 q.1 (.iface T2 u2) ∧ TI A B K w2 ad2 q.2 own gv p gm o1 ∧ Gk B ad ad2 w w2 ∧ FX w2 w.heap.size (w.heap.size + 1) eb fl wv p gm #[.int .i64 dpt, .iface Tx ux, .iface Ty uy] 254 ∧ PX w2 (fun _ => True) y (.iface Ty uy)))) := by
    refine (hf.call h1 (hx.keepT (XKeep.kept hkd)) hT1).mono ?_
    rintro e w2 (⟨j, rfl, rfl, hk, hw⟩ | ⟨q, T2, u2, ad2, rfl, rfl, hv, hT2, hg⟩)
    · simp only [Option.some.injEq] at h
      subst h
      exact .inl ⟨_, rfl, rfl, hk, (hG0.trans (Gk.ofKw hw)).kw⟩
    · have hF2 := hF.gk hg (by decide)
      obtain ⟨d0, d1, d2, d3⟩ := hF2.c
      exact .inr ⟨T2, u2, rfl, d0, d1, d2, d3, hF2.x (i := 1) rfl, q, ad2, rfl, hv, hT2, hG0.trans hg, hF2, hPY.gk hg⟩
  obtain ⟨c0, c1, c2, c3⟩ := hF.c
  have c4 := hF.x (i := 1) (v := .iface Tx ux) rfl
  have HFF : Hid _ := hf
  have HH : Hid _ := h
  clear hT hT1 hF hk0 hkd hx hy h1 hf h hb hPY hG0
  go_region_held2 (fun w' => w'.cell? ⟨w.heap.size, 0, none⟩ = some (.int .i64 fl) ∧ w'.cell? ⟨w.heap.size, 1, none⟩ = some wv ∧ w'.cell? ⟨w.heap.size + 1, 0, none⟩ = some (.pointer p) ∧ w'.cell? ⟨w.heap.size + 1, 1, none⟩ = some (.map (some gm)) ∧ w'.cell? ⟨eb, 1, none⟩ = some (.iface Tx ux)) (go_keep) (first | (go_at_call 73; refine Calls.mono HC.out ?_; rintro e w2 (⟨a, rfl, hE⟩ | ⟨T2, u2, rfl, d0, d1, d2, d3, d4, HR⟩); exact ⟨rfl, hE⟩; clear HC))
  all_goals
    obtain ⟨q, ad2, rfl, hv2, hT2, hg2, hF2, hP2⟩ := HR.out
    have hh := HH.out
    simp only [Option.bind_eq_some_iff] at hh
    obtain ⟨⟨r3, o3⟩, h3, hh⟩ := hh
    have hs2 := hT2.sx
    have hV : Kept w2 (w2.alloc (.cells #[.nilIface, .string { data := #[] }, .bool false] 148)) := Kept.alloc _ _
    have hVd : Kept w2 (w2.alloc (.cells #[.nilIface, .string { data := #[] }, .bool false] 148)).drew := hV.trans (Kept.drew _)
    have hgn : Gk B ad2 (ad2 ++ [w2.heap.size]) w2 (w2.alloc (.cells #[.nilIface, .string { data := #[] }, .bool false] 148)).drew := (Gk.new w2 _).trans (Gk.ofKt (Kt.of_kept (Kept.drew _)))
    have hrl : RV (ad2 ++ [w2.heap.size]) (.nd .vr q.2.length) (.iface 124 (.pointer (some ⟨w2.heap.size, 0, none⟩))) := RV.last hs2.len .vr
    have hT3 : TI A B K (w2.alloc (.cells #[.nilIface, .string { data := #[] }, .bool false] 148)).drew (ad2 ++ [w2.heap.size]) (q.2 ++ [newV]) own gv p gm o1 := hT2.to hgn ((hs2.newv hT2.ws false).kept (Kept.drew _)) (hT2.ws.add _) (hK _ _ [] _ hT2.k (Kt.of_kept hVd))
    have hg3 : Gk B ad (ad2 ++ [w2.heap.size]) w (w2.alloc (.cells #[.nilIface, .string { data := #[] }, .bool false] 148)).drew := hg2.trans hgn
    have hv3 : RV (ad2 ++ [w2.heap.size]) q.1 (.iface T2 u2) := hv2.up _
    have hF3 := hF2.kept hVd
    have hP3 := PX.keepT (XKeep.kept hVd) hP2
    go_wp2_with fail
    generalize (w2.alloc (.cells #[.nilIface, .string { data := #[] }, .bool false] 148)) = V at *
    have HC : Hid (Calls Tryz.prog 73 #[.agg #[.int .i64 fl, wv], .iface Ty uy, .agg #[.pointer p, .map (some gm)]] V.drew fun e w3 => (∃ a, e = thrown (.iface 342 (.pointer (some a))) ∧ TyO A B K ad w (thrown (.iface 342 (.pointer (some a)))) w3 res.2 res.1) ∨ (∃ T3 u3, e = .returned (.iface T3 u3) ∧ w3.cell? ⟨w.heap.size, 0, none⟩ = some (.int .i64 fl) ∧ w3.cell? ⟨w.heap.size, 1, none⟩ = some wv ∧ w3.cell? ⟨w.heap.size + 1, 0, none⟩ = some (.pointer p) ∧ w3.cell? ⟨w.heap.size + 1, 1, none⟩ = some (.map (some gm)) ∧ w3.cell? ⟨eb, 2, none⟩ = some (.iface Ty uy) ∧
        Hid (Calls Tryz.prog 164 #[.iface T2 u2, .iface 157 (.pointer (some ⟨w3.heap.size, 0, none⟩))] (w3.alloc (.cells #[.nilIface, .iface T3 u3, .iface 124 (.pointer (some ⟨w2.heap.size, 0, none⟩))] 160)) fun e w4 => (∃ a, e = thrown (.iface 342 (.pointer (some a))) ∧ TyO A B K ad w (thrown (.iface 342 (.pointer (some a)))) w4 res.2 res.1) ∨ (e = .returned (.tuple #[]) ∧ w4.cell? ⟨w.heap.size, 0, none⟩ = some (.int .i64 fl) ∧ w4.cell? ⟨w.heap.size, 1, none⟩ = some wv ∧ w4.cell? ⟨w.heap.size + 1, 0, none⟩ = some (.pointer p) ∧ w4.cell? ⟨w.heap.size + 1, 1, none⟩ = some (.map (some gm)) ∧ w4.cell? ⟨eb, 2, none⟩ = some (.iface Ty uy) ∧ Hid (TyO A B K ad w (.returned (.iface 124 (.pointer (some ⟨w2.heap.size, 0, none⟩)))) w4 res.2 res.1))))) := by
      refine (STf.call HFF.out h3 hP3 hT3).mono ?_
      rintro e w3 (⟨j, rfl, rfl, hk, hw⟩ | ⟨q3, T3, u3, ad3, rfl, rfl, hv4, hT4, hg4⟩)
      · simp only [Option.some.injEq] at hh
        subst hh
        exact .inl ⟨_, rfl, rfl, hk, (hg3.trans (Gk.ofKw hw)).kw⟩
      · have hF4 := hF3.gk hg4 (by decide)
        obtain ⟨e0, e1, e2, e3⟩ := hF4.c
        refine .inr ⟨T3, u3, rfl, e0, e1, e2, e3, hF4.x (i := 2) rfl, ?_⟩
        simp only [Option.bind_eq_some_iff] at hh
        obtain ⟨eo, heo, hh⟩ := hh
        have hs4 := hT4.sx
        have hrl4 := hg4.rv hrl
        have hs5 := hs4.newa hT4.ws hv4 hrl4
        have hka : Kept w3 (w3.alloc (.cells #[.nilIface, .iface T3 u3, .iface 124 (.pointer (some ⟨w2.heap.size, 0, none⟩))] 160)) := Kept.alloc _ _
        have hgn5 : Gk B ad3 (ad3 ++ [w3.heap.size]) w3 (w3.alloc (.cells #[.nilIface, .iface T3 u3, .iface 124 (.pointer (some ⟨w2.heap.size, 0, none⟩))] 160)) := Gk.new w3 _
        have hF5 := hF4.kept hka
        refine (eq_sx A B 500 _ _ _ eo heo _ (ad3 ++ [w3.heap.size]) _ _ (hgn5.ga hT4.ga) hs5 ((hg4.rv hv3).up _) (RV.last hs4.len .ar)).mono ?_
        intro e w4 hE
        cases eo with
        | er j =>
          simp only [Option.some.injEq] at hh
          subst hh
          obtain ⟨he, hk4⟩ := hE
          exact .inl ⟨_, he, rfl, hK _ _ _ _ (hK _ _ [] _ hT4.k (Kt.of_kept hka)) hk4, (((hg3.trans hg4).trans hgn5).trans (Gk.ofKt hk4)).kw⟩
        | ok σ1 =>
          simp only [Option.some.injEq] at hh
          subst hh
          obtain ⟨he, hs6, hk4⟩ := hE
          have hF6 := hF5.gk (Gk.ofKt (B := B) hk4) (by decide)
          obtain ⟨f0, f1, f2, f3⟩ := hF6.c
          exact .inr ⟨he, f0, f1, f2, f3, hF6.x (i := 2) rfl, _, _, rfl, hrl4.up _, hs6, WS.eq 500 (hT4.ws.add _) heo, hK _ _ _ _ (hK _ _ [] _ hT4.k (Kt.of_kept hka)) hk4, ((hg3.trans hg4).trans hgn5).trans (Gk.ofKt hk4)⟩
    obtain ⟨c0, c1, c2, c3⟩ := hF3.c
    have c4 := hF3.x (i := 2) (v := .iface Ty uy) rfl
    clear hs2 hV hVd hgn hrl hT3 hg3 hv3 hF3 hP3 hT2 hg2 hF2 hP2 hv2 h3 hh HR HFF HH d0 d1 d2 d3 d4
    go_region_held2 (fun w' => w'.cell? ⟨w.heap.size, 0, none⟩ = some (.int .i64 fl) ∧ w'.cell? ⟨w.heap.size, 1, none⟩ = some wv ∧ w'.cell? ⟨w.heap.size + 1, 0, none⟩ = some (.pointer p) ∧ w'.cell? ⟨w.heap.size + 1, 1, none⟩ = some (.map (some gm)) ∧ w'.cell? ⟨eb, 2, none⟩ = some (.iface Ty uy)) (go_keep) (first | (go_at_call 73; refine Calls.mono HC.out ?_; rintro e w3 (⟨a, rfl, hE⟩ | ⟨T3, u3, rfl, d0, d1, d2, d3, d4, HD⟩); exact ⟨rfl, hE⟩; clear HC) | (go_at_call 164; refine Calls.mono HD.out ?_; rintro e w4 (⟨a, rfl, hE⟩ | ⟨rfl, f0, f1, f2, f3, f4, HR⟩); exact ⟨rfl, hE⟩; clear HD))
    all_goals
      go_wp2
      go_ret
      exact HR.out
end Go.Proofs.YtleenphlgbklmabGreatDoor

namespace Go.Proofs.YtleenphlgbklmabGreatDoor
open Go.RowKit

set_option maxRecDepth 20000 in
set_option maxHeartbeats 4000000 in
theorem tif_sx {ω : Type} {A : Nat → Addr} {B : Nat} {K : World → ω → Prop} (hK : KOk K) {gv : Gv} {fl : Int} {wv : Value} {f : X → List Bd → St → ω → Option (Oc (TR × St) × ω)} (hf : STf A B K gv fl wv f) {x y z : X} {own : List Bd} {σ : St} {o : ω} {res : Oc (TR × St) × ω} (h : ifF f x y z own σ o = some res) {w : World} {ad : List Nat} {p : Option Addr} {gm : Nat} (hT : TI A B K w ad σ own gv p gm o) {eb dpt : Nat} {vx vy vz : Value} (hb : w.heap[eb]? = some (.cells #[.int .i64 dpt, vx, vy, vz] 246 (0, 0))) (hx : PX w (fun _ => True) x vx) (hy : PX w (fun _ => True) y vy) (hz : PX w (fun _ => True) z vz) :
    Calls Tryz.prog 144 #[.agg #[.int .i64 fl, wv], .pointer (some ⟨eb, 0, none⟩), .agg #[.pointer p, .map (some gm)]] w fun e w' => TyO A B K ad w e w' res.2 res.1 := by
  simp only [ifF, Option.bind_eq_some_iff] at h
  obtain ⟨⟨r1, o1⟩, h1, h⟩ := h
  obtain ⟨hF, hk0⟩ := fx_start w eb fl wv p gm hb
  obtain ⟨Tx, ux, rfl⟩ := hx.iface
  obtain ⟨Ty, uy, rfl⟩ := hy.iface
  obtain ⟨Tz, uz, rfl⟩ := hz.iface
  go_enter Tryz.func144, Tryz.ntmps144
  go_wp2_with fail
  generalize (w.alloc (.cells #[.int .i64 fl, wv] 103)).alloc (.cells #[.pointer p, .map (some gm)] 168) = W at *
  have hkd : Kept w W.drew := hk0.trans (Kept.drew W)
  have hF := hF.kept (Kept.drew W)
  have hT1 := hT.kept hK hkd
  have hPY := PX.keepT (XKeep.kept hkd) hy
  have hPZ := PX.keepT (XKeep.kept hkd) hz
  have hG0 : Gk B ad ad w W.drew := Gk.ofKt (Kt.of_kept hkd)
  have HC : Hid (Calls Tryz.prog 73 #[.agg #[.int .i64 fl, wv], .iface Tx ux, .agg #[.pointer p, .map (some gm)]] W.drew fun e w2 => (∃ a, e = thrown (.iface 342 (.pointer (some a))) ∧ TyO A B K ad w (thrown (.iface 342 (.pointer (some a)))) w2 res.2 res.1) ∨ (∃ T2 u2, e = .returned (.iface T2 u2) ∧ w2.cell? ⟨w.heap.size, 0, none⟩ = some (.int .i64 fl) ∧ w2.cell? ⟨w.heap.size, 1, none⟩ = some wv ∧ w2.cell? ⟨w.heap.size + 1, 0, none⟩ = some (.pointer p) ∧ w2.cell? ⟨w.heap.size + 1, 1, none⟩ = some (.map (some gm)) ∧ w2.cell? ⟨eb, 1, none⟩ = some (.iface Tx ux) ∧
      Hid (Calls Tryz.prog 164 #[.iface T2 u2, .iface 271 (.agg #[.string { data := #[98, 111, 111, 108] }])] w2 fun e w4 => (∃ a, e = thrown (.iface 342 (.pointer (some a))) ∧ TyO A B K ad w (thrown (.iface 342 (.pointer (some a)))) w4 res.2 res.1) ∨ (e = .returned (.tuple #[]) ∧ w4.cell? ⟨w.heap.size, 0, none⟩ = some (.int .i64 fl) ∧ w4.cell? ⟨w.heap.size, 1, none⟩ = some wv ∧ w4.cell? ⟨w.heap.size + 1, 0, none⟩ = some (.pointer p) ∧ w4.cell? ⟨w.heap.size + 1, 1, none⟩ = some (.map (some gm)) ∧ w4.cell? ⟨eb, 1, none⟩ = some (.iface Tx ux) ∧
        Hid (∃ (σ1 : St) (ad2 : List Nat), (f y own σ1 o1).bind (fun r => match r with
              | (.er j, o) => some (.er j, o)
              | (.ok p, o) => (f z own p.2 o).bind fun r => match r with
                | (.er j, o) => some (.er j, o)
                | (.ok p2, o) => (eqF 500 p2.2 p.1 p2.1).bind fun q => match q with
                  | .er j => some (.er j, o)
                  | .ok σ2 => some (.ok (p.1, σ2), o)) = some res ∧ TI A B K w4 ad2 σ1 own gv p gm o1 ∧ Gk B ad ad2 w w4 ∧ FX w4 w.heap.size (w.heap.size + 1) eb fl wv p gm #[.int .i64 dpt, .iface Tx ux, .iface Ty uy, .iface Tz uz] 246 ∧ PX w4 (fun _ => True) y (.iface Ty uy) ∧ PX w4 (fun _ => True) z (.iface Tz uz)))))) := by
    refine (hf.call h1 (hx.keepT (XKeep.kept hkd)) hT1).mono ?_
    rintro e w2 (⟨j, rfl, rfl, hk, hw⟩ | ⟨q, T2, u2, ad2, rfl, rfl, hv, hT2, hg⟩)
    · simp only [Option.some.injEq] at h
      subst h
      exact .inl ⟨_, rfl, rfl, hk, (hG0.trans (Gk.ofKw hw)).kw⟩
    · have hF2 := hF.gk hg (by decide)
      obtain ⟨d0, d1, d2, d3⟩ := hF2.c
      refine .inr ⟨T2, u2, rfl, d0, d1, d2, d3, hF2.x (i := 1) rfl, ?_⟩
      simp only [Option.bind_eq_some_iff] at h
      obtain ⟨eo, heo, h⟩ := h
      refine (eq_sx A B 500 _ _ _ eo heo _ ad2 _ _ hT2.ga hT2.sx hv rfl).mono ?_
      intro e w4 hE
      cases eo with
      | er j =>
        simp only [Option.some.injEq] at h
        subst h
        obtain ⟨he, hk4⟩ := hE
        exact .inl ⟨_, he, rfl, hK _ _ _ _ hT2.k hk4, ((hG0.trans hg).trans (Gk.ofKt hk4)).kw⟩
      | ok σ1 =>
        obtain ⟨he, hs6, hk4⟩ := hE
        have hgk := Gk.ofKt (B := B) hk4
        have hF6 := hF2.gk hgk (by decide)
        obtain ⟨f0, f1, f2, f3⟩ := hF6.c
        exact .inr ⟨he, f0, f1, f2, f3, hF6.x (i := 1) rfl, σ1, ad2, h, hT2.to hgk hs6 (WS.eq 500 hT2.ws heo) (hK _ _ _ _ hT2.k hk4), (hG0.trans hg).trans hgk, hF6, (hPY.gk hg).gk hgk, (hPZ.gk hg).gk hgk⟩
  obtain ⟨c0, c1, c2, c3⟩ := hF.c
  have c4 := hF.x (i := 1) (v := .iface Tx ux) rfl
  have HFF : Hid _ := hf
  clear hT hT1 hF hk0 hkd hx hy hz h1 hf h hb hPY hPZ hG0
  go_region_held2 (fun w' => w'.cell? ⟨w.heap.size, 0, none⟩ = some (.int .i64 fl) ∧ w'.cell? ⟨w.heap.size, 1, none⟩ = some wv ∧ w'.cell? ⟨w.heap.size + 1, 0, none⟩ = some (.pointer p) ∧ w'.cell? ⟨w.heap.size + 1, 1, none⟩ = some (.map (some gm)) ∧ w'.cell? ⟨eb, 1, none⟩ = some (.iface Tx ux)) (go_keep) (first | (go_at_call 73; refine Calls.mono HC.out ?_; rintro e w2 (⟨a, rfl, hE⟩ | ⟨T2, u2, rfl, d0, d1, d2, d3, d4, HD⟩); exact ⟨rfl, hE⟩; clear HC) | (go_at_call 164; refine Calls.mono HD.out ?_; rintro e w4 (⟨a, rfl, hE⟩ | ⟨rfl, f0, f1, f2, f3, f4, HR⟩); exact ⟨rfl, hE⟩; clear HD))
  all_goals
    obtain ⟨σ1, ad2, hh, hT2, hg2, hF2, hP2, hQ2⟩ := HR.out
    simp only [Option.bind_eq_some_iff] at hh
    obtain ⟨⟨r3, o3⟩, h3, hh⟩ := hh
    have hVd : Kept w4 w4.drew := Kept.drew _
    have hT3 := hT2.kept hK hVd
    have hF3 := hF2.kept hVd
    have hP3 := PX.keepT (XKeep.kept hVd) hP2
    have hQ3 := PX.keepT (XKeep.kept hVd) hQ2
    have hg3 : Gk B ad ad2 w w4.drew := hg2.trans (Gk.ofKt (Kt.of_kept hVd))
    have HC : Hid (Calls Tryz.prog 73 #[.agg #[.int .i64 fl, wv], .iface Ty uy, .agg #[.pointer p, .map (some gm)]] w4.drew fun e w3 => (∃ a, e = thrown (.iface 342 (.pointer (some a))) ∧ TyO A B K ad w (thrown (.iface 342 (.pointer (some a)))) w3 res.2 res.1) ∨ (∃ T3 u3, e = .returned (.iface T3 u3) ∧ w3.cell? ⟨w.heap.size, 0, none⟩ = some (.int .i64 fl) ∧ w3.cell? ⟨w.heap.size, 1, none⟩ = some wv ∧ w3.cell? ⟨w.heap.size + 1, 0, none⟩ = some (.pointer p) ∧ w3.cell? ⟨w.heap.size + 1, 1, none⟩ = some (.map (some gm)) ∧ w3.cell? ⟨eb, 2, none⟩ = some (.iface Ty uy) ∧
        Hid (∃ (q3 : TR × St) (ad3 : List Nat), (f z own q3.2 o3).bind (fun r => match r with
                | (.er j, o) => some (.er j, o)
                | (.ok p2, o) => (eqF 500 p2.2 q3.1 p2.1).bind fun q => match q with
                  | .er j => some (.er j, o)
                  | .ok σ2 => some (.ok (q3.1, σ2), o)) = some res ∧ RV ad3 q3.1 (.iface T3 u3) ∧ TI A B K w3 ad3 q3.2 own gv p gm o3 ∧ Gk B ad ad3 w w3 ∧ FX w3 w.heap.size (w.heap.size + 1) eb fl wv p gm #[.int .i64 dpt, .iface Tx ux, .iface Ty uy, .iface Tz uz] 246 ∧ PX w3 (fun _ => True) z (.iface Tz uz)))) := by
      refine (STf.call HFF.out h3 hP3 hT3).mono ?_
      rintro e w3 (⟨j, rfl, rfl, hk, hw⟩ | ⟨q3, T3, u3, ad3, rfl, rfl, hv4, hT4, hg4⟩)
      · simp only [Option.some.injEq] at hh
        subst hh
        exact .inl ⟨_, rfl, rfl, hk, (hg3.trans (Gk.ofKw hw)).kw⟩
      · have hF4 := hF3.gk hg4 (by decide)
        obtain ⟨e0, e1, e2, e3⟩ := hF4.c
        exact .inr ⟨T3, u3, rfl, e0, e1, e2, e3, hF4.x (i := 2) rfl, q3, ad3, hh, hv4, hT4, hg3.trans hg4, hF4, hQ3.gk hg4⟩
    obtain ⟨c0, c1, c2, c3⟩ := hF3.c
    have c4 := hF3.x (i := 2) (v := .iface Ty uy) rfl
    clear hVd hT3 hg3 hF3 hP3 hQ3 hT2 hg2 hF2 hP2 hQ2 h3 hh HR f0 f1 f2 f3 f4 d0 d1 d2 d3 d4
    go_wp2_with fail
    go_region_held2 (fun w' => w'.cell? ⟨w.heap.size, 0, none⟩ = some (.int .i64 fl) ∧ w'.cell? ⟨w.heap.size, 1, none⟩ = some wv ∧ w'.cell? ⟨w.heap.size + 1, 0, none⟩ = some (.pointer p) ∧ w'.cell? ⟨w.heap.size + 1, 1, none⟩ = some (.map (some gm)) ∧ w'.cell? ⟨eb, 2, none⟩ = some (.iface Ty uy)) (go_keep) (first | (go_at_call 73; refine Calls.mono HC.out ?_; rintro e w3 (⟨a, rfl, hE⟩ | ⟨T3, u3, rfl, d0, d1, d2, d3, d4, HR⟩); exact ⟨rfl, hE⟩; clear HC))
    all_goals
      obtain ⟨q3, ad3, hh, hv4, hT4, hg4, hF4, hQ4⟩ := HR.out
      simp only [Option.bind_eq_some_iff] at hh
      obtain ⟨⟨r5, o5⟩, h5, hh⟩ := hh
      have hVd : Kept w3 w3.drew := Kept.drew _
      have hT5 := hT4.kept hK hVd
      have hF5 := hF4.kept hVd
      have hQ5 := PX.keepT (XKeep.kept hVd) hQ4
      have hg5 : Gk B ad ad3 w w3.drew := hg4.trans (Gk.ofKt (Kt.of_kept hVd))
      have HC : Hid (Calls Tryz.prog 73 #[.agg #[.int .i64 fl, wv], .iface Tz uz, .agg #[.pointer p, .map (some gm)]] w3.drew fun e w5 => (∃ a, e = thrown (.iface 342 (.pointer (some a))) ∧ TyO A B K ad w (thrown (.iface 342 (.pointer (some a)))) w5 res.2 res.1) ∨ (∃ T5 u5, e = .returned (.iface T5 u5) ∧ w5.cell? ⟨w.heap.size, 0, none⟩ = some (.int .i64 fl) ∧ w5.cell? ⟨w.heap.size, 1, none⟩ = some wv ∧ w5.cell? ⟨w.heap.size + 1, 0, none⟩ = some (.pointer p) ∧ w5.cell? ⟨w.heap.size + 1, 1, none⟩ = some (.map (some gm)) ∧ w5.cell? ⟨eb, 3, none⟩ = some (.iface Tz uz) ∧
          Hid (Calls Tryz.prog 164 #[.iface T3 u3, .iface T5 u5] w5 fun e w6 => (∃ a, e = thrown (.iface 342 (.pointer (some a))) ∧ TyO A B K ad w (thrown (.iface 342 (.pointer (some a)))) w6 res.2 res.1) ∨ (e = .returned (.tuple #[]) ∧ w6.cell? ⟨w.heap.size, 0, none⟩ = some (.int .i64 fl) ∧ w6.cell? ⟨w.heap.size, 1, none⟩ = some wv ∧ w6.cell? ⟨w.heap.size + 1, 0, none⟩ = some (.pointer p) ∧ w6.cell? ⟨w.heap.size + 1, 1, none⟩ = some (.map (some gm)) ∧ w6.cell? ⟨eb, 3, none⟩ = some (.iface Tz uz) ∧ Hid (TyO A B K ad w (.returned (.iface T3 u3)) w6 res.2 res.1))))) := by
        refine (STf.call HFF.out h5 hQ5 hT5).mono ?_
        rintro e w5 (⟨j, rfl, rfl, hk, hw⟩ | ⟨q5, T5, u5, ad5, rfl, rfl, hv6, hT6, hg6⟩)
        · simp only [Option.some.injEq] at hh
          subst hh
          exact .inl ⟨_, rfl, rfl, hk, (hg5.trans (Gk.ofKw hw)).kw⟩
        · have hF6 := hF5.gk hg6 (by decide)
          obtain ⟨e0, e1, e2, e3⟩ := hF6.c
          refine .inr ⟨T5, u5, rfl, e0, e1, e2, e3, hF6.x (i := 3) rfl, ?_⟩
          simp only [Option.bind_eq_some_iff] at hh
          obtain ⟨eo, heo, hh⟩ := hh
          have hv7 := hg6.rv hv4
          refine (eq_sx A B 500 _ _ _ eo heo _ ad5 _ _ hT6.ga hT6.sx hv7 hv6).mono ?_
          intro e w6 hE
          cases eo with
          | er j =>
            simp only [Option.some.injEq] at hh
            subst hh
            obtain ⟨he, hk4⟩ := hE
            exact .inl ⟨_, he, rfl, hK _ _ _ _ hT6.k hk4, ((hg5.trans hg6).trans (Gk.ofKt hk4)).kw⟩
          | ok σ9 =>
            simp only [Option.some.injEq] at hh
            subst hh
            obtain ⟨he, hs6, hk4⟩ := hE
            have hF7 := hF6.gk (Gk.ofKt (B := B) hk4) (by decide)
            obtain ⟨f0, f1, f2, f3⟩ := hF7.c
            exact .inr ⟨he, f0, f1, f2, f3, hF7.x (i := 3) rfl, _, _, rfl, hv7, hs6, WS.eq 500 hT6.ws heo, hK _ _ _ _ hT6.k hk4, (hg5.trans hg6).trans (Gk.ofKt hk4)⟩
      obtain ⟨c0, c1, c2, c3⟩ := hF5.c
      have c4 := hF5.x (i := 3) (v := .iface Tz uz) rfl
      clear hVd hT5 hg5 hF5 hQ5 hT4 hg4 hF4 hQ4 hv4 h5 hh HR d0 d1 d2 d3 d4
      go_wp2_with fail
      go_region_held2 (fun w' => w'.cell? ⟨w.heap.size, 0, none⟩ = some (.int .i64 fl) ∧ w'.cell? ⟨w.heap.size, 1, none⟩ = some wv ∧ w'.cell? ⟨w.heap.size + 1, 0, none⟩ = some (.pointer p) ∧ w'.cell? ⟨w.heap.size + 1, 1, none⟩ = some (.map (some gm)) ∧ w'.cell? ⟨eb, 3, none⟩ = some (.iface Tz uz)) (go_keep) (first | (go_at_call 73; refine Calls.mono HC.out ?_; rintro e w5 (⟨a, rfl, hE⟩ | ⟨T5, u5, rfl, d0, d1, d2, d3, d4, HD⟩); exact ⟨rfl, hE⟩; clear HC) | (go_at_call 164; refine Calls.mono HD.out ?_; rintro e w6 (⟨a, rfl, hE⟩ | ⟨rfl, f0, f1, f2, f3, f4, HR⟩); exact ⟨rfl, hE⟩; clear HD))
      all_goals
        go_wp2
        go_ret
        exact HR.out
end Go.Proofs.YtleenphlgbklmabGreatDoor

namespace Go.Proofs.YtleenphlgbklmabGreatDoor
open Go.RowKit

theorem BW.c2 {H : TypeId} {w : World} {B b : Nat} {x : Value} {bs : List Value} (h : BW H w B b x bs) : w.cell? ⟨b, 2, none⟩ = some x ∧ w.frozen? ⟨b, 2, none⟩ = false := by
  obtain ⟨hB, p, v, _, hbk, _⟩ := h
  exact ⟨by simp [World.cell?, hbk], by simp [World.frozen?, hbk]⟩
theorem BW.setX {H : TypeId} {w : World} {B b : Nat} {x y : Value} {bs : List Value} (h : BW H w B b x bs) : BW H (w.setCell ⟨b, 2, none⟩ y) B b y bs ∧ KB B b w (w.setCell ⟨b, 2, none⟩ y) := by
  obtain ⟨hB, p, v, hp, hbk, hown, hne⟩ := h
  refine ⟨⟨hB, p, v, hp, by simp [World.setCell, hbk, Array.getElem?_modify], ownsRow_setCell_other hown hne _, hne⟩, (Kp.refl _ _).setCell _ _ (fun _ => hB), fun k cs e f hk _ hc => ?_⟩
  rw [← hc]
  simp only [World.setCell]
  rw [Array.getElem?_modify, if_neg (fun z => hk z.symm)]
theorem Tryz.neWrB : (182 : Nat) ≠ 5 := by decide
theorem sC_app (a b : ByteArray) : Lib.strCells (a ++ b) = Lib.strCells a ++ Lib.strCells b := by
  simp [Lib.strCells_eq, Lib.byteCells]
theorem sC_nil : Lib.strCells { data := #[] } = [] := by simp [Lib.strCells_eq, Lib.byteCells]
theorem sep_f (l t : ByteArray) : sep l t = if (sameS l { data := #[] } || sameS l { data := #[40] } || sameS t { data := #[41] } || sameS t { data := #[44] }) then { data := #[] } else { data := #[32] } := by
  unfold sep pre opn cls
  cases sameS l { data := #[] } <;> cases sameS l { data := #[40] } <;> cases sameS t { data := #[41] } <;> cases sameS t { data := #[44] } <;> rfl
set_option maxRecDepth 20000 in
set_option maxHeartbeats 1000000 in
theorem ptoks_any (B b g c : Nat) (ts : List ByteArray) (w : World) (last : ByteArray) (bs : List Value) (h : BW 182 w B b (.string last) bs) (hg : w.heap[g]? = some (.cells (ts.map Value.string).toArray 9 (0, 0))) (hlen : bs.length + (ts.map fun t => t.size + 1).sum ≤ 100000000) (hts : ts.length ≤ 1000000) :
    Calls Tryz.prog 112 #[.pointer (some ⟨b, 0, none⟩), .slice (some ⟨g, 0, none⟩) ts.length c] w fun e w' => e = .returned (.tuple #[]) ∧ BW 182 w' B b (.string (lst last ts)) (bs ++ Lib.strCells (em last ts)) ∧ KB B b w w' := by
  have hgb : g ≠ b := fun e => by
    obtain ⟨hB, p, v, _, hbk, _⟩ := h
    rw [e, hbk] at hg
    simp only [Option.some.injEq, Obj.cells.injEq] at hg
    exact absurd hg.2.1 (by decide)
  have h0 : BW 182 w B b (.string (lst last (ts.take 0))) (bs ++ Lib.strCells (em last (ts.take 0))) := by
    have e : Lib.strCells (em last (ts.take 0)) = [] := by simp [em, Lib.strCells_eq, Lib.byteCells]
    rw [e]
    simpa [lst] using h
  have HW : Hid _ := h0
  clear h0 h
  go_enter Tryz.func112, Tryz.ntmps112
  go_wp2
  go_loopw [8] (fun i wr => KB B b w wr ∧ ∃ q : Nat, q ≤ ts.length ∧ i = .int .i64 q ∧ BW 182 wr B b (.string (lst last (ts.take q))) (bs ++ Lib.strCells (em last (ts.take q)))) (fun i _ => ts.length - (intOf i).toNat)
  case atStart => exact ⟨KB.refl _ _ _, 0, Nat.zero_le _, rfl, HW.out⟩
  case round =>
    obtain ⟨hkr, q, hq, rfl, hW⟩ := hrel
    by_cases hlt : q < ts.length
    · have hgr := hkr.oth g _ _ _ hgb (by decide) hg
      have hc : wr.cell? ⟨g, q, none⟩ = some (.string ts[q]) := by simp [World.cell?, hgr, hlt]
      have e1 : ts.take (q + 1) = ts.take q ++ [ts[q]] := List.take_succ_eq_append_getElem hlt
      have hst : Hid (lst last (ts.take (q + 1)) = ts[q] ∧ em last (ts.take (q + 1)) = em last (ts.take q) ++ (sep (lst last (ts.take q)) ts[q] ++ ts[q])) := by
        show _ ∧ _
        rw [e1, lst_app, em_app, em_one]
        exact ⟨rfl, rfl⟩
      have hz := em_size (ts.take q) last
      have hz2 : ((ts.take q).map fun t => t.size + 1).sum + (ts[q].size + 1) ≤ (ts.map fun t => t.size + 1).sum := by
        have e2 : (ts.map fun t => t.size + 1).sum = ((ts.take (q + 1) ++ ts.drop (q + 1)).map fun t => t.size + 1).sum := by rw [List.take_append_drop]
        rw [e2, List.map_append, List.sum_append, e1, List.map_append, List.sum_append]
        simp
      clear hgr e1 hg HW
      generalize lst last (ts.take q) = l at *
      generalize em last (ts.take q) = m at *
      generalize ts[q] = t at *
      have hln : (bs ++ Lib.strCells m).length + t.size + 1 ≤ 100000000 := by
        rw [List.length_append, Lib.strCells_length]
        omega
      clear hz hz2
      obtain ⟨c2, f2⟩ := hW.c2
      have W1 : Hid _ := bws2_any 182 Tryz.liesWr Tryz.neWrB B b _ _ { data := #[32] } wr hW (by have : ({ data := #[32] } : ByteArray).size = 1 := rfl; omega)
      have W2 : Hid (∀ w1 bs1, BW 182 w1 B b (.string l) bs1 → bs1.length + t.size ≤ 100000000 → Calls Tryz.prog 85 #[.pointer (some ⟨b, 0, none⟩), .string t] w1 fun e w' => e = .returned (.tuple #[.int .i64 t.size, .nilIface]) ∧ BW 182 w' B b (.string l) (bs1 ++ Lib.strCells t) ∧ KB B b w1 w') := fun w1 bs1 h1 h2 => bws2_any 182 Tryz.liesWr Tryz.neWrB B b _ _ t w1 h1 (by omega)
      have HW : Hid _ := hW
      clear hW
      have D1 : (l.toList == []) = sameS l { data := #[] } := by rw [ByteArray.toList_eq]; rfl
      have D2 : (l.toList == [40]) = sameS l { data := #[40] } := by rw [ByteArray.toList_eq]; rfl
      have D3 : (t.toList == [41]) = sameS t { data := #[41] } := by rw [ByteArray.toList_eq]; rfl
      have D4 : (t.toList == [44]) = sameS t { data := #[44] } := by rw [ByteArray.toList_eq]; rfl
      have hsf := sep_f l t
      cases hcond : (sameS l { data := #[] } || sameS l { data := #[40] } || sameS t { data := #[41] } || sameS t { data := #[44] })
      · rw [hcond, if_neg (by simp)] at hsf
        simp only [Bool.or_eq_false_iff] at hcond
        obtain ⟨⟨⟨q1, q2⟩, q3⟩, q4⟩ := hcond
        rw [q1] at D1
        rw [q2] at D2
        rw [q3] at D3
        rw [q4] at D4
        rw [hsf] at hst
        clear hsf q1 q2 q3 q4
        go_wp2_with fail
        refine Calls.mono W1.out ?_
        rintro e w1 ⟨rfl, hW1, hk1⟩
        go_wp2_with fail
        refine Calls.mono (W2.out w1 _ hW1 (by rw [List.length_append, Lib.strCells_length (s := { data := #[32] })]; have : ({ data := #[32] } : ByteArray).size = 1 := rfl; omega)) ?_
        rintro e w2 ⟨rfl, hW2, hk2⟩
        obtain ⟨c22, f22⟩ := hW2.c2
        have hX := hW2.setX (y := .string t)
        clear hW1 hW2 W1 W2 c2 f2
        go_wp2
        refine ⟨⟨((hkr.trans hk1).trans hk2).trans hX.2, q + 1, by omega, by go_num, ?_⟩, by simp [intOf]; omega⟩
        rw [hst.out.1, hst.out.2, sC_app, sC_app, ← List.append_assoc, ← List.append_assoc]
        exact hX.1
      · rw [hcond, if_pos rfl] at hsf
        rw [hsf] at hst
        clear hsf W1
        cases q1 : sameS l { data := #[] } <;> cases q2 : sameS l { data := #[40] } <;> cases q3 : sameS t { data := #[41] } <;> cases q4 : sameS t { data := #[44] } <;> simp only [q1, q2, q3, q4, Bool.or_false, Bool.or_true, Bool.false_eq_true] at hcond
        all_goals
          rw [q1] at D1
          rw [q2] at D2
          rw [q3] at D3
          rw [q4] at D4
          clear q1 q2 q3 q4
          go_wp2_with fail
          refine Calls.mono (W2.out wr _ HW.out (by omega)) ?_
          rintro e w2 ⟨rfl, hW2, hk2⟩
          obtain ⟨c22, f22⟩ := hW2.c2
          have hX := hW2.setX (y := .string t)
          clear hW2 W2 c2 f2
          go_wp2
          refine ⟨⟨(hkr.trans hk2).trans hX.2, q + 1, by omega, by go_num, ?_⟩, by simp [intOf]; omega⟩
          rw [hst.out.1, hst.out.2, sC_app, sC_app, ← List.append_assoc, sC_nil, List.nil_append]
          exact hX.1
    · have hq2 : q = ts.length := by omega
      have hk : Hid (ts.take q = ts) := by show _ = _; rw [hq2, List.take_length]
      clear hg HW hq2
      go_wp2
      go_end0
      rw [hk.out] at hW
      exact ⟨rfl, hW, hkr⟩
end Go.Proofs.YtleenphlgbklmabGreatDoor

import Derived.Test.YtleenphlgbklmabGreatDoorWTCk
import Derived.Test.YtleenphlgbklmabGreatDoorWPCk
import Derived.Deep.OwnRows
set_option linter.unusedVariables false
set_option linter.unusedSimpArgs false
namespace Go.Proofs.YtleenphlgbklmabGreatDoor
open Go.RowKit

/-- a value of a type's kind. -/
def IfV (v : Value) : Prop := v = .nilIface ∨ ∃ T u, v = .iface T u
theorem with_v (w : World) (p : Option Addr) (gm : Nat) (n : ByteArray) {v : Value} (hv : IfV v) : Calls Tryz.prog 104 #[.agg #[.pointer p, .map (some gm)], .string n, v] w fun e w' => ∃ q, e = .returned (.agg #[.pointer (some ⟨q, 0, none⟩), .map (some gm)]) ∧ w'.heap[q]? = some (.cells #[.string n, v, .bool false, .pointer p] 287 (0, 0)) ∧ Kept w w' := by
  rcases hv with rfl | ⟨T, u, rfl⟩
  · exact with_nil w p gm n
  · exact with_any w p gm n T u
theorem grpF_snoc (own : List Bd) : ∀ (j : Nat) (names : List ByteArray) (ts : List TR) (bs : List Bd) (h : j < names.length) (h2 : j < ts.length), grpF (names.take (j + 1)) (ts.take (j + 1)) bs = ⟨names[j], ts[j], false⟩ :: grpF (names.take j) (ts.take j) bs
  | 0, n :: ns, t :: ts, bs, _, _ => by simp [grpF]
  | j + 1, n :: ns, t :: ts, bs, h, h2 => by
    have := grpF_snoc own j ns ts (⟨n, t, false⟩ :: bs) (by simpa using h) (by simpa using h2)
    simpa [grpF] using this
  | _, [], _, _, h, _ => by simp at h
  | _, _ :: _, [], _, _, h => by simp at h
theorem set2_at {W : World} {sb : Nat} {x y : Value} {T : TypeId} (h : W.heap[sb]? = some (.cells #[x, y] T (0, 0))) (x' y' : Value) : ((W.setCell ⟨sb, 0, none⟩ x').setCell ⟨sb, 1, none⟩ y').heap[sb]? = some (.cells #[x', y'] T (0, 0)) := by simp [World.setCell, h, Array.getElem?_modify]
theorem set2_ne (W : World) {sb k : Nat} (hk : k ≠ sb) (x' y' : Value) : ((W.setCell ⟨sb, 0, none⟩ x').setCell ⟨sb, 1, none⟩ y').heap[k]? = W.heap[k]? := (Below.heap_setCell _ _ _ k (fun z => hk z)).trans (Below.heap_setCell _ _ _ k (fun z => hk z))
theorem set2_kept {w W : World} (h : Kept w W) {sb : Nat} (hs : w.heap.size ≤ sb) (x' y' : Value) : Kept w ((W.setCell ⟨sb, 0, none⟩ x').setCell ⟨sb, 1, none⟩ y') := ⟨h.os, h.output, by simpa using h.size, fun k hk => (set2_ne W (by omega) x' y').trans (h.block k hk)⟩
theorem set2_ch {W : World} {sb : Nat} {x y : Value} (h : W.heap[sb]? = some (.cells #[x, y] 168 (0, 0))) {R : TR → Value → Prop} {l : List Bd} {v : Value} (hc : CH W R l v) (x' y' : Value) : CH ((W.setCell ⟨sb, 0, none⟩ x').setCell ⟨sb, 1, none⟩ y') R l v :=
  hc.keep (fun q cs f hq => (set2_ne W (fun z => by rw [z, h] at hq; simp at hq) x' y').trans hq)
/-- what the walk over a group's names holds. -/
structure WGI (w : World) (sb : Nat) (R : TR → Value → Prop) (l : List Bd) (gm : Nat) (wr : World) (q : Option Addr) : Prop where
  kept : Kept w wr
  blk : wr.heap[sb]? = some (.cells #[.pointer q, .map (some gm)] 168 (0, 0))
  rb : wr.heap[sb + 1]? = some (.cells #[.pointer none, .map none] 168 (0, 0))
  ch : CH wr R l (.pointer q)
set_option maxRecDepth 20000 in
set_option maxHeartbeats 4000000 in
theorem withg_any {w : World} {R : TR → Value → Prop} {names : List ByteArray} {ts : List TR} {vals : List Value} {own : List Bd} {p : Option Addr} {gm ng gb cap cap2 : Nat} (hl : names.length = ts.length) (hl2 : vals.length = ts.length) (hm : names.length ≤ 1000000)
    (hn : ∀ j (h : j < names.length), w.cell? ⟨ng, j, none⟩ = some (.string names[j])) (hs : ∀ j (h : j < vals.length), w.cell? ⟨gb, j, none⟩ = some vals[j]) (hi : ∀ v, v ∈ vals → IfV v) (hR : ∀ j (h : j < ts.length) (h2 : j < vals.length), R ts[j] vals[j]) (hc : CH w R own (.pointer p)) :
    Calls Tryz.prog 141 #[.agg #[.pointer p, .map (some gm)], .slice (some ⟨ng, 0, none⟩) names.length cap, .slice (some ⟨gb, 0, none⟩) names.length cap2] w fun e w' => ∃ q, e = .returned (.agg #[.pointer q, .map (some gm)]) ∧ CH w' R (grpF names ts own) (.pointer q) ∧ Kept w w' := by
  have HI : Hid _ := hi
  have HR : Hid _ := hR
  have HN : Hid _ := hn
  have HS : Hid _ := hs
  have HC : Hid _ := hc
  have HL : Hid _ := And.intro hl hl2
  clear hi hR hn hs hc hl hl2
  go_enter Tryz.func141, Tryz.ntmps141
  go_wp2_with fail
  have hb0 : ((w.alloc (.cells #[.pointer p, .map (some gm)] 168)).alloc (.cells #[.pointer none, .map none] 168)).heap[w.heap.size]? = some (.cells #[.pointer p, .map (some gm)] 168 (0, 0)) := (Kept.alloc _ _).blk (heap_alloc_new _ _)
  have hk0 : Kept w ((w.alloc (.cells #[.pointer p, .map (some gm)] 168)).alloc (.cells #[.pointer none, .map none] 168)) := (Kept.alloc _ _).trans (Kept.alloc _ _)
  have HW : Hid (WGI w w.heap.size R own gm ((w.alloc (.cells #[.pointer p, .map (some gm)] 168)).alloc (.cells #[.pointer none, .map none] 168)) p) := ⟨hk0, hb0, by simpa using heap_alloc_new (w.alloc (.cells #[.pointer p, .map (some gm)] 168)) (.cells #[.pointer none, .map none] 168), HC.out.keep (fun q cs f h => hk0.blk h)⟩
  generalize (w.alloc (.cells #[.pointer p, .map (some gm)] 168)).alloc (.cells #[.pointer none, .map none] 168) = W0 at *
  clear hk0 hb0
  go_loopw [11] (fun i wr => ∃ (j : Nat) (q : Option Addr), j ≤ names.length ∧ i = .int .i64 j ∧ Hid (WGI w w.heap.size R (grpF (names.take j) (ts.take j) own) gm wr q)) (fun i _ => names.length - (intOf i).toNat)
  case atStart => exact ⟨0, p, Nat.zero_le _, rfl, HW.out⟩
  case round =>
    obtain ⟨j, q, hj, rfl, HJ⟩ := hrel
    have c0 : wr.cell? ⟨w.heap.size, 0, none⟩ = some (.pointer q) := by simp [World.cell?, HJ.out.blk]
    have c1 : wr.cell? ⟨w.heap.size, 1, none⟩ = some (.map (some gm)) := by simp [World.cell?, HJ.out.blk]
    by_cases hlt : j < names.length
    · have hlv : j < vals.length := by rw [HL.out.2, ← HL.out.1]; exact hlt
      have hlt2 : j < ts.length := by rw [← HL.out.1]; exact hlt
      have HE : Hid _ := grpF_snoc own j names ts own hlt hlt2
      have cn := HJ.out.kept.cell (HN.out j hlt)
      have cs := HJ.out.kept.cell (HS.out j hlv)
      have HRj : Hid _ := HR.out j hlt2 hlv
      have hif := HI.out _ (List.getElem_mem hlv)
      generalize vals[j] = v at *
      generalize names[j] = n at *
      generalize ts[j] = t at *
      generalize grpF (names.take j) (ts.take j) own = l at *
      have HCl : Hid (Calls Tryz.prog 104 #[.agg #[.pointer q, .map (some gm)], .string n, v] wr.drew fun e w2 => ∃ q2, e = .returned (.agg #[.pointer (some ⟨q2, 0, none⟩), .map (some gm)]) ∧ w2.cell? ⟨w.heap.size, 0, none⟩ = some (.pointer q) ∧ w2.cell? ⟨w.heap.size, 1, none⟩ = some (.map (some gm)) ∧ w2.cell? ⟨gb, j, none⟩ = some v ∧ w2.frozen? ⟨w.heap.size, 0, none⟩ = false ∧ w2.frozen? ⟨w.heap.size, 1, none⟩ = false ∧
          Hid (WGI w w.heap.size R (⟨n, t, false⟩ :: l) gm ((w2.setCell ⟨w.heap.size, 0, none⟩ (.pointer (some ⟨q2, 0, none⟩))).setCell ⟨w.heap.size, 1, none⟩ (.map (some gm))) (some ⟨q2, 0, none⟩))) := by
        refine (with_v wr.drew q gm n hif).mono ?_
        rintro e w2 ⟨q2, rfl, hq2, hk2⟩
        have hk3 : Kept wr w2 := (Kept.drew wr).trans hk2
        have hb3 := hk3.blk HJ.out.blk
        refine ⟨q2, rfl, hk3.cell c0, hk3.cell c1, hk3.cell cs, by simp [World.frozen?, hb3], by simp [World.frozen?, hb3], ?_⟩
        have hk4 := HJ.out.kept.trans hk3
        have hch : CH w2 R (⟨n, t, false⟩ :: l) (.pointer (some ⟨q2, 0, none⟩)) := ⟨q2, v, .pointer q, rfl, hq2, HRj.out, HJ.out.ch.keep (fun q cs f h => hk3.blk h)⟩
        exact ⟨set2_kept hk4 (Nat.le_refl _) _ _, set2_at hb3 _ _, (set2_ne w2 (by omega) _ _).trans (hk3.blk HJ.out.rb), set2_ch hb3 hch _ _⟩
      have e0 : wr.drew.cell? ⟨w.heap.size, 0, none⟩ = some (.pointer q) := c0
      have e1 : wr.drew.cell? ⟨w.heap.size, 1, none⟩ = some (.map (some gm)) := c1
      have es : wr.drew.cell? ⟨gb, j, none⟩ = some v := cs
      clear HN HS HI HR HC HL HW
      rcases hif with rfl | ⟨T, u, rfl⟩
      all_goals
        go_wp2_with fail
        go_region_with (go_at_call 104; refine Calls.mono HCl.out ?_; rintro e w2 ⟨q2, rfl, d0, d1, d2, d3, d4, HD⟩; clear HCl)
        all_goals
          generalize (w2.setCell ⟨w.heap.size, 0, none⟩ (.pointer (some ⟨q2, 0, none⟩))).setCell ⟨w.heap.size, 1, none⟩ (.map (some gm)) = Z at *
          go_wp2
          go_roundw
          case measure => simp [intOf]; omega
          case rel => exact ⟨j + 1, some ⟨q2, 0, none⟩, hlt, by go_num, by rw [HE.out]; exact HD.out⟩
    · have r0 : wr.cell? ⟨w.heap.size + 1, 0, none⟩ = some (.pointer none) := by simp [World.cell?, HJ.out.rb]
      have r1 : wr.cell? ⟨w.heap.size + 1, 1, none⟩ = some (.map none) := by simp [World.cell?, HJ.out.rb]
      have r2 : wr.frozen? ⟨w.heap.size + 1, 0, none⟩ = false := by simp [World.frozen?, HJ.out.rb]
      have r3 : wr.frozen? ⟨w.heap.size + 1, 1, none⟩ = false := by simp [World.frozen?, HJ.out.rb]
      have HF : Hid (CH ((wr.setCell ⟨w.heap.size + 1, 0, none⟩ (.pointer q)).setCell ⟨w.heap.size + 1, 1, none⟩ (.map (some gm))) R (grpF names ts own) (.pointer q) ∧ Kept w ((wr.setCell ⟨w.heap.size + 1, 0, none⟩ (.pointer q)).setCell ⟨w.heap.size + 1, 1, none⟩ (.map (some gm)))) := by
        have h1 := HJ.out.ch
        rw [List.take_of_length_le (by omega), List.take_of_length_le (by rw [← HL.out.1]; omega)] at h1
        exact ⟨set2_ch HJ.out.rb h1 _ _, set2_kept HJ.out.kept (by omega) _ _⟩
      have hz := set2_at HJ.out.rb (.pointer q) (.map (some gm))
      have z0 : ((wr.setCell ⟨w.heap.size + 1, 0, none⟩ (.pointer q)).setCell ⟨w.heap.size + 1, 1, none⟩ (.map (some gm))).cell? ⟨w.heap.size + 1, 0, none⟩ = some (.pointer q) := by simp [World.cell?, hz]
      have z1 : ((wr.setCell ⟨w.heap.size + 1, 0, none⟩ (.pointer q)).setCell ⟨w.heap.size + 1, 1, none⟩ (.map (some gm))).cell? ⟨w.heap.size + 1, 1, none⟩ = some (.map (some gm)) := by simp [World.cell?, hz]
      clear hz HN HS HI HR HC HL HW
      go_wp2_with fail
      generalize (wr.setCell ⟨w.heap.size + 1, 0, none⟩ (.pointer q)).setCell ⟨w.heap.size + 1, 1, none⟩ (.map (some gm)) = Z at *
      exact bodyPost_ret (v := .agg #[.pointer q, .map (some gm)]) (by simp [results, Tryz.results141, go_sem, z0, z1]) rfl ⟨q, rfl, HF.out⟩
end Go.Proofs.YtleenphlgbklmabGreatDoor

namespace Go.Proofs.YtleenphlgbklmabGreatDoor
open Go.RowKit

/-- a row of types. -/
def TRow (w : World) (g : Nat) (vals : List Value) : Prop := w.heap[g]? = some (.cells vals.toArray 77 (0, 0))
theorem TRow.cell {w : World} {g : Nat} {vals : List Value} (h : TRow w g vals) (j : Nat) (hj : j < vals.length) : w.cell? ⟨g, j, none⟩ = some vals[j] := by
  unfold TRow at h
  simp [World.cell?, h, hj]
theorem not_tb {vals : Array Value} : ¬ TB (.cells vals 77 (0, 0)) := by
  rintro ⟨cs', e', f', hx, ht⟩
  simp only [Obj.cells.injEq] at hx
  obtain ⟨_, rfl, _⟩ := hx
  rcases ht with e | e | e | e <;> cases e
theorem TRow.kt {w w' : World} {g : Nat} {vals : List Value} {ad : List Nat} (h : TRow w g vals) (k : Kt ad (fun _ => False) w w') : TRow w' g vals := k.blk _ _ h id not_tb
/-- the types of a row. -/
def RVs (ad : List Nat) (ts : List TR) (vals : List Value) : Prop := vals.length = ts.length ∧ ∀ j (h : j < ts.length) (h2 : j < vals.length), RV ad ts[j] vals[j]
theorem Tryz.mkPr (w : World) : (Instr.makeMap 338 none).run Tryz.prog w = .ok (.map (some w.heap.size)) (w.alloc (.map #[] 0)) := by kernel_rfl
set_option maxRecDepth 20000 in
set_option maxHeartbeats 4000000 in
theorem sames_sx {σ : St} {ts us : List TR} {b : Bool} (h : samesF σ ts us = some b) (hl : us.length = ts.length) (hm : ts.length ≤ 1000000) {w : World} {ad : List Nat} {g g2 cap cap2 : Nat} {vals valu : List Value} (hs : SX w ad σ) (hr : TRow w g vals) (hr2 : TRow w g2 valu) (hv : RVs ad ts vals) (hv2 : RVs ad us valu) :
    Calls Tryz.prog 183 #[.slice (some ⟨g, 0, none⟩) ts.length cap, .slice (some ⟨g2, 0, none⟩) ts.length cap2] w fun e w' => e = .returned (.bool b) ∧ SX w' ad σ ∧ Kt ad (fun _ => False) w w' := by
  have HS : Hid (SX w ad σ) := hs
  have HR : Hid (TRow w g vals ∧ TRow w g2 valu) := ⟨hr, hr2⟩
  have HV : Hid (RVs ad ts vals ∧ RVs ad us valu) := ⟨hv, hv2⟩
  have HL : Hid (us.length = ts.length) := hl
  have HB : Hid (samesF σ ts us = some b) := h
  clear hs hr hr2 hv hv2 hl h
  go_enter Tryz.func183, Tryz.ntmps183
  go_wp2_with fail
  go_loopw [9] (fun i wr => ∃ j : Nat, j ≤ ts.length ∧ i = .int .i64 j ∧ Hid (SX wr ad σ) ∧ Hid (Kt ad (fun _ => False) w wr) ∧ Hid (samesF σ (ts.drop j) (us.drop j) = some b)) (fun i _ => ts.length - (intOf i).toNat)
  case atStart => exact ⟨0, Nat.zero_le _, rfl, HS, Kt.refl _ _ _, HB.out⟩
  case round =>
    obtain ⟨j, hj, rfl, HSr, HKr, HBr⟩ := hrel
    by_cases hlt : j < ts.length
    · have hlu : j < us.length := by rw [HL.out]; exact hlt
      have hl1 : j < vals.length := by rw [HV.out.1.1]; exact hlt
      have hl2 : j < valu.length := by rw [HV.out.2.1]; exact hlu
      have c1 := (HR.out.1.kt HKr.out).cell j hl1
      have c2 := (HR.out.2.kt HKr.out).cell j hl2
      have hv1 := HV.out.1.2 j hlt hl1
      have hv2 := HV.out.2.2 j hlu hl2
      obtain ⟨p, hp, hb⟩ : ∃ p, sameF 500 σ ts[j] us[j] [] = some p ∧ (if p.1 then samesF σ (ts.drop (j + 1)) (us.drop (j + 1)) else some false) = some b := by
        have := HBr.out
        rw [List.drop_eq_getElem_cons hlt, List.drop_eq_getElem_cons hlu] at this
        simpa only [samesF, Option.bind_eq_some_iff] using this
      have mk := Tryz.mkPr wr
      have HC : Hid (Calls Tryz.prog 195 #[.map (some wr.heap.size), vals[j], valu[j]] (wr.alloc (.map #[] 0)) fun e w' => e = .returned (.bool p.1) ∧ Hid (SX w' ad σ ∧ Kt ad (fun _ => False) w w')) := by
        have hk := Kept.alloc wr (.map #[] 0)
        refine (same_sx 500 σ ts[j] us[j] [] p hp (wr.alloc (.map #[] 0)) ad vals[j] valu[j] wr.heap.size (SX.kept HSr.out hk) hv1 hv2 (VV.none _ _ _) (fun e he => by simp at he)).mono ?_
        rintro e w' hE
        have hkt : Kt ad (fun q => q = wr.heap.size) wr w' := (Kt.of_kept hk).trans hE.2.2.2.2
        exact ⟨hE.1, hE.2.1, HKr.out.trans (hkt.mono (fun q hq z => by omega))⟩
      have HBn : Hid _ := hb
      obtain ⟨T1, u1, e1⟩ := hv1.iface
      obtain ⟨T2, u2, e2⟩ := hv2.iface
      rw [e1] at c1 HC
      rw [e2] at c2 HC
      have c3 := (Kept.alloc wr (.map #[] 0)).cell c2
      obtain ⟨p1, p2⟩ := p
      clear hp hb hv1 hv2 e1 e2
      clear HS HR HV HL HB HBr HSr HKr
      cases p1 with
      | true =>
        go_wp2_with fail
        refine Calls.mono HC.out ?_
        rintro e w' ⟨rfl, HF⟩
        clear HC
        go_wp2
        go_roundw
        case measure => simp [intOf]; omega
        case rel => exact ⟨j + 1, hlt, by go_num, HF.out.1, HF.out.2, HBn.out⟩
      | false =>
        have hbf : b = false := by have := HBn.out; simpa using this.symm
        subst hbf
        go_wp2_with fail
        refine Calls.mono HC.out ?_
        rintro e w' ⟨rfl, HF⟩
        clear HC
        go_wp2
        go_ret
        exact ⟨rfl, HF.out⟩
    · have hbt : b = true := by
        have := HBr.out
        rw [List.drop_of_length_le (by omega)] at this
        simpa [samesF] using this.symm
      subst hbt
      clear HS HR HV HL HB HBr
      go_wp2
      go_ret
      exact ⟨rfl, HSr.out, HKr.out⟩
end Go.Proofs.YtleenphlgbklmabGreatDoor

namespace Go.Proofs.YtleenphlgbklmabGreatDoor
open Go.RowKit

def gNd : Nd := ⟨.vr { data := #[] } true, none⟩
theorem anyF_eq : ∀ (k : Nat) (σ : St), anyF k σ = ((List.range k).map (fun i => .nd .vr (σ.length + i)), σ ++ List.replicate k gNd)
  | 0, σ => by simp [anyF]
  | k + 1, σ => by
    have := anyF_eq k (σ ++ [⟨.vr { data := #[] } true, none⟩])
    simp only [anyF, this]
    refine Prod.ext ?_ ?_
    · simp only [List.range_succ_eq_map, List.map_cons, List.map_map, List.length_append, List.length_singleton]
      simp only [Nat.add_zero]
      congr 1
      apply List.map_congr_left
      intro i _
      simp only [Function.comp]
      congr 1
      omega
    · show σ ++ [gNd] ++ List.replicate k gNd = _
      rw [List.append_assoc]
      rfl
theorem Tryz.infoTypI : (Tryz.prog.info? 77).map (fun i => (i.zero, i.size, i.bytes)) = some (some .nilIface, 1, 16) := by kernel_rfl
def vV (b : Nat) : Value := .iface Kd.vr.tp (.pointer (some ⟨b, 0, none⟩))
/-- what stands while a group's first schemes are made. -/
structure AnI (w : World) (ad : List Nat) (σ : St) (k : Nat) (u : List Nat) (wr : World) : Prop where
  sx : SX wr (ad ++ u) (σ ++ List.replicate u.length gNd)
  ws : WS (σ ++ List.replicate u.length gNd)
  row : wr.heap[w.heap.size]? = some (.cells (u.map vV ++ List.replicate (k - u.length) Value.nilIface).toArray 77 (0, 0))
  up : ∀ q, q ∈ u → w.heap.size < q
  kt : Kt ad (fun _ => False) w wr
  lo : ∀ q, q ∈ ad → q < w.heap.size
theorem made_rep (k : Nat) : madeCells #[Value.nilIface] k = (List.replicate k Value.nilIface).toArray := by
  rw [← toList_madeCells_one]
theorem row_set {W : World} {g : Nat} {a rest : List Value} {x : Value} {T : TypeId} (h : W.heap[g]? = some (.cells (a ++ x :: rest).toArray T (0, 0))) (n : Nat) (hn : n = a.length) (v : Value) : (W.setCell ⟨g, n, none⟩ v).heap[g]? = some (.cells (a ++ v :: rest).toArray T (0, 0)) := by
  subst hn
  simp [World.setCell, h, Array.getElem?_modify]
theorem row_get {W : World} {g : Nat} {a rest : List Value} {x : Value} {T : TypeId} (h : W.heap[g]? = some (.cells (a ++ x :: rest).toArray T (0, 0))) (n : Nat) (hn : n = a.length) : W.cell? ⟨g, n, none⟩ = some x := by
  subst hn
  simp [World.cell?, h]
theorem rep_cons {k n : Nat} (h : n < k) : List.replicate (k - n) Value.nilIface = .nilIface :: List.replicate (k - (n + 1)) Value.nilIface := by
  rw [← List.replicate_succ]
  congr 1
  omega
theorem AnI.start {w : World} {ad : List Nat} {σ : St} (hs : SX w ad σ) (hw : WS σ) (k : Nat) : AnI w ad σ k [] (w.alloc (.cells (madeCells #[.nilIface] k) 77)) :=
  ⟨by simpa using SX.kept hs (Kept.alloc w _), by simpa using hw, by rw [made_rep]; exact heap_alloc_new _ _, by simp, Kt.of_kept (Kept.alloc _ _), fun q hq => hs.lt hq⟩
theorem AnI.step {w wr : World} {ad : List Nat} {σ : St} {k : Nat} {u : List Nat} (h : AnI w ad σ k u wr) (hu : u.length < k) : AnI w ad σ k (u ++ [wr.heap.size]) ((wr.alloc (.cells #[.nilIface, .string { data := #[] }, .bool true] 148)).setCell ⟨w.heap.size, u.length, none⟩ (vV wr.heap.size)) := by
  have hlt : w.heap.size < wr.heap.size := lt_of_block h.row
  have hk := Kept.alloc wr (.cells #[.nilIface, .string { data := #[] }, .bool true] 148)
  have hne : ∀ q, q ≠ w.heap.size → ((wr.alloc (.cells #[.nilIface, .string { data := #[] }, .bool true] 148)).setCell ⟨w.heap.size, u.length, none⟩ (vV wr.heap.size)).heap[q]? = (wr.alloc (.cells #[.nilIface, .string { data := #[] }, .bool true] 148)).heap[q]? := fun q hq => Below.heap_setCell _ _ _ q (fun z => hq z)
  have er : σ ++ List.replicate (u ++ [wr.heap.size]).length gNd = (σ ++ List.replicate u.length gNd) ++ [⟨.vr { data := #[] } true, none⟩] := by
    rw [List.length_append, List.length_singleton, List.replicate_succ', List.append_assoc]
    rfl
  refine ⟨?_, ?_, ?_, ?_, ?_, h.lo⟩
  · rw [er, ← List.append_assoc]
    refine (SX.newv h.sx h.ws true).keep (fun b o hb ho => (hne b (fun z => ?_)).trans ho)
    subst z
    simp only [List.mem_append, List.mem_singleton] at hb
    rcases hb with (hb | hb) | hb
    · have := h.lo _ hb; omega
    · have := h.up _ hb; omega
    · omega
  · rw [er]
    exact h.ws.add _
  · have hr := hk.blk h.row
    rw [rep_cons hu] at hr
    have := row_set hr u.length (by simp) (vV wr.heap.size)
    rw [this, List.length_append, List.length_singleton, List.map_append, List.append_assoc]
    rfl
  · intro q hq
    simp only [List.mem_append, List.mem_singleton] at hq
    rcases hq with hq | rfl
    · exact h.up q hq
    · exact hlt
  · refine ⟨h.kt.os, h.kt.output, ?_, fun q o hq hn ht => ?_⟩
    · have := h.kt.size
      simp
      omega
    · exact (hne q (by have := lt_of_block hq; omega)).trans (hk.blk (h.kt.blk0 q o hq hn ht))
set_option maxRecDepth 20000 in
set_option maxHeartbeats 4000000 in
theorem any_sx {w : World} {ad : List Nat} {σ : St} (hs : SX w ad σ) (hw : WS σ) (k : Nat) (hk : k ≤ 1000000) :
    Calls Tryz.prog 180 #[.int .i64 k] w fun e w' => ∃ g vals ad', e = .returned (.slice (some ⟨g, 0, none⟩) k k) ∧ TRow w' g vals ∧ RVs ad' (anyF k σ).1 vals ∧ SX w' ad' (anyF k σ).2 ∧ WS (anyF k σ).2 ∧ w.heap.size ≤ g ∧ Gw (fun _ => False) ad ad' w w' := by
  have hmk := run_make_row' (P := Tryz.prog) 273 77 .nilIface 16 Tryz.underlying273 Tryz.infoTypI rfl .i64 .i64 k (by omega) (by omega) w
  go_enter Tryz.func180, Tryz.ntmps180
  go_wp2_with fail
  have HA : Hid (AnI w ad σ k [] (w.alloc (.cells (madeCells #[.nilIface] k) 77))) := AnI.start hs hw k
  have HS : Hid (SX w ad σ) := hs
  generalize w.alloc (.cells (madeCells #[.nilIface] k) 77) = W at *
  clear hmk hs hw
  go_loopw [9] (fun i wr => ∃ u : List Nat, u.length ≤ k ∧ i = .int .i64 u.length ∧ Hid (AnI w ad σ k u wr)) (fun i _ => k - (intOf i).toNat)
  case atStart => exact ⟨[], Nat.zero_le _, rfl, HA⟩
  case round =>
    obtain ⟨u, hu, rfl, HU⟩ := hrel
    by_cases hlt : u.length < k
    · have HN : Hid _ := HU.out.step hlt
      have hrow := (Kept.alloc wr (.cells #[.nilIface, .string { data := #[] }, .bool true] 148)).blk HU.out.row
      have c0 : (wr.alloc (.cells #[.nilIface, .string { data := #[] }, .bool true] 148)).cell? ⟨w.heap.size, u.length, none⟩ = some .nilIface := by
        rw [rep_cons hlt] at hrow
        exact row_get hrow u.length (by simp)
      have c1 : (wr.alloc (.cells #[.nilIface, .string { data := #[] }, .bool true] 148)).frozen? ⟨w.heap.size, u.length, none⟩ = false := by simp [World.frozen?, hrow]
      clear hrow
      go_wp2_with fail
      refine ⟨⟨u ++ [wr.heap.size], by simp; omega, by simp, HN.out⟩, ?_⟩
      simp [intOf]
      omega
    · obtain rfl : u.length = k := by omega
      have HF : Hid (∃ g vals ad', Ending.returned (.slice (some ⟨w.heap.size, 0, none⟩) u.length u.length) = .returned (.slice (some ⟨g, 0, none⟩) u.length u.length) ∧ TRow wr g vals ∧ RVs ad' (anyF u.length σ).1 vals ∧ SX wr ad' (anyF u.length σ).2 ∧ WS (anyF u.length σ).2 ∧ w.heap.size ≤ g ∧ Gw (fun _ => False) ad ad' w wr) := by
        have hlen := SX.len HS.out
        have hrow := HU.out.row
        rw [Nat.sub_self, List.replicate_zero, List.append_nil] at hrow
        rw [anyF_eq]
        refine ⟨w.heap.size, u.map vV, ad ++ u, rfl, hrow, ⟨by simp, fun j h h2 => ?_⟩, HU.out.sx, HU.out.ws, Nat.le_refl _, ⟨u, rfl, fun q hq => Nat.le_of_lt (HU.out.up q hq)⟩, HU.out.kt⟩
        simp only [List.getElem_map, List.getElem_range]
        refine ⟨u[j]'(by simpa using h2), ?_, rfl⟩
        rw [List.getElem?_append_right (by omega), hlen, Nat.add_sub_cancel_left]
        simp
      clear HA HS HU
      go_wp2_with fail
      exact bodyPost_ret (results_tmp Tryz.results180 _ _ _) rfl HF.out
end Go.Proofs.YtleenphlgbklmabGreatDoor

namespace Go.Proofs.YtleenphlgbklmabGreatDoor
open Go.RowKit

section
variable {ω : Type} (A : Nat → Addr) (B : Nat) (K : World → ω → Prop)
/-- how a round ends. -/
def RnO (ad : List Nat) (w : World) (e : Ending) (w' : World) (o : ω) : Oc (List TR × St) → Prop
  | .ok q => ∃ g vals ad', e = .returned (.slice (some ⟨g, 0, none⟩) q.1.length q.1.length) ∧ w.heap.size ≤ g ∧ TRow w' g vals ∧ RVs ad' q.1 vals ∧ SX w' ad' q.2 ∧ WS q.2 ∧ K w' o ∧ Gk B ad ad' w w'
  | .er j => Thr A j e ∧ K w' o ∧ Kw B ad w w'
end
/-- a round, by the program's steps. -/
def rnd1 {ω : Type} (typ : X → St → ω → Option (Oc (TR × St) × ω)) (values : List X) (own : List Bd) (σ : St) (o : ω) : Option (Oc (List TR × St) × ω) :=
  (valsF typ values σ o).bind fun r => match r with
    | (.er j, o) => some (.er j, o)
    | (.ok p, o) => (boundF p.2 own []).bind fun bd => (gensF p.2 bd p.1).bind fun σ1 => some (.ok (p.1, σ1), o)
/-- what is left to type, behind what is typed. -/
def vrest {ω : Type} (typ : X → St → ω → Option (Oc (TR × St) × ω)) (ts : List TR) (xs : List X) (σ : St) (o : ω) : Option (Oc (List TR × St) × ω) :=
  (valsF typ xs σ o).bind fun r => match r with
    | (.er j, o) => some (.er j, o)
    | (.ok q, o) => some (.ok (ts ++ q.1, q.2), o)
theorem vrest_zero {ω : Type} (typ : X → St → ω → Option (Oc (TR × St) × ω)) (xs : List X) (σ : St) (o : ω) : vrest typ [] xs σ o = valsF typ xs σ o := by
  unfold vrest
  cases h : valsF typ xs σ o with
  | none => rfl
  | some r =>
    obtain ⟨r, o1⟩ := r
    cases r <;> rfl
theorem vrest_ok {ω : Type} (typ : X → St → ω → Option (Oc (TR × St) × ω)) (ts : List TR) (x : X) (xs : List X) (σ : St) (o : ω) {p : TR × St} {o1 : ω} (h : typ x σ o = some (.ok p, o1)) : vrest typ ts (x :: xs) σ o = vrest typ (ts ++ [p.1]) xs p.2 o1 := by
  unfold vrest
  simp only [valsF, h, Option.bind_some]
  cases h2 : valsF typ xs p.2 o1 with
  | none => rfl
  | some r =>
    obtain ⟨r, o2⟩ := r
    cases r with
    | er j => rfl
    | ok q => simp
theorem vrest_er {ω : Type} (typ : X → St → ω → Option (Oc (TR × St) × ω)) (ts : List TR) (x : X) (xs : List X) (σ : St) (o : ω) {j : Nat} {o1 : ω} (h : typ x σ o = some (.er j, o1)) : vrest typ ts (x :: xs) σ o = some (.er j, o1) := by
  unfold vrest
  simp only [valsF, h, Option.bind_some]
theorem vrest_nil {ω : Type} (typ : X → St → ω → Option (Oc (TR × St) × ω)) (ts : List TR) (σ : St) (o : ω) : vrest typ ts [] σ o = some (.ok (ts, σ), o) := by simp [vrest, valsF]
section
variable {ω : Type} {A : Nat → Addr} {B : Nat} {K : World → ω → Prop} {gv : Gv} {fuel : Nat} {wv : Value}
/-- the watcher keeps what it has, while a row of types is written. -/
def KRw (K : World → ω → Prop) : Prop := ∀ (w : World) (o : ω) (g : Nat) (vals : Array Value) (j : Nat) (v : Value), K w o → w.heap[g]? = some (.cells vals 77 (0, 0)) → K (w.setCell ⟨g, j, none⟩ v) o
theorem TI.row (hK : KRw K) {w : World} {ad : List Nat} {σ : St} {own : List Bd} {p : Option Addr} {gm : Nat} {o : ω} (h : TI A B K w ad σ own gv p gm o) {g : Nat} {vals : Array Value} (hg : w.heap[g]? = some (.cells vals 77 (0, 0))) (hB : B ≤ g) (j : Nat) (v : Value) : TI A B K (w.setCell ⟨g, j, none⟩ v) ad σ own gv p gm o := by
  have hne : ∀ q, q ≠ g → (w.setCell ⟨g, j, none⟩ v).heap[q]? = w.heap[q]? := fun q hq => Below.heap_setCell _ _ _ q (fun z => hq z)
  refine ⟨h.sx.keep (fun b o hb ho => (hne b (fun z => ?_)).trans ho), h.ws, h.ga.low (by simp) (fun q hq => hne q (by omega)), h.ch.keep (fun q cs f hq => (hne q (fun z => ?_)).trans hq), ?_, hK _ _ _ _ _ _ h.k hg⟩
  · subst z
    obtain ⟨τ, hτ, _⟩ := h.sx
    obtain ⟨o', ho', ht⟩ := hτ.tb hb
    rw [hg] at ho'
    cases ho'
    exact absurd ht not_tb
  · rw [z, hg] at hq
    simp at hq
  · obtain ⟨l, h1, h2⟩ := h.gm
    exact ⟨l, (hne gm (fun z => by rw [z, hg] at h1; cases h1)).trans h1, h2⟩
theorem Gk.row {w wr : World} {a b : List Nat} (h : Gk B a b w wr) {g : Nat} (hg : w.heap.size ≤ g) (j : Nat) (v : Value) : Gk B a b w (wr.setCell ⟨g, j, none⟩ v) :=
  ⟨h.up, ⟨h.kw.os, h.kw.output, by simpa using h.kw.size, fun q o hq h1 h2 => (Below.heap_setCell _ _ _ q (fun z => by have := lt_of_block hq; have z : q = g := z; omega)).trans (h.kw.blk q o hq h1 h2)⟩⟩
/-- what stands while a round types. -/
structure RI (w : World) (ad : List Nat) (fl : Int) (own own2 : List Bd) (p p2 : Option Addr) (gm n : Nat) (ts : List TR) (σ : St) (o : ω) (wr : World) (ad2 : List Nat) (vals : List Value) : Prop where
  by0 : wr.heap[w.heap.size]? = some (.cells #[.int .i64 fl, wv] 103 (0, 0))
  sc : wr.heap[w.heap.size + 1]? = some (.cells #[.pointer p2, .map (some gm)] 168 (0, 0))
  so : wr.heap[w.heap.size + 1 + 1]? = some (.cells #[.pointer p, .map (some gm)] 168 (0, 0))
  row : wr.heap[w.heap.size + 1 + 1 + 1]? = some (.cells (vals ++ List.replicate (n - vals.length) Value.nilIface).toArray 77 (0, 0))
  rv : RVs ad2 ts vals
  ti : TI A B K wr ad2 σ own gv p gm o
  ch : CH wr (RV ad2) own2 (.pointer p2)
  gk : Gk B ad ad2 w wr
theorem RVs.snoc {ad : List Nat} {ts : List TR} {vals : List Value} {t : TR} {v : Value} (h : RVs ad ts vals) (hv : RV ad t v) : RVs ad (ts ++ [t]) (vals ++ [v]) := by
  refine ⟨by simp [h.1], fun j h1 h2 => ?_⟩
  by_cases hj : j < ts.length
  · have hj2 : j < vals.length := by rw [h.1]; exact hj
    rw [List.getElem_append_left hj, List.getElem_append_left hj2]
    exact h.2 j hj hj2
  · have e1 : j = ts.length := by simp at h1; omega
    have e2 : j = vals.length := by rw [h.1]; exact e1
    have a1 : (ts ++ [t])[j] = t := by simp [e1]
    have a2 : (vals ++ [v])[j] = v := by simp [e2]
    rw [a1, a2]
    exact hv
theorem RVs.gk {w w' : World} {a b : List Nat} (g : Gk B a b w w') {ts : List TR} {vals : List Value} (h : RVs a ts vals) : RVs b ts vals := ⟨h.1, fun j h1 h2 => g.rv (h.2 j h1 h2)⟩
theorem RI.step (hR : KRw K) {w : World} {ad : List Nat} {fl : Int} {own own2 : List Bd} {p p2 : Option Addr} {gm n : Nat} {ts : List TR} {σ : St} {o : ω} {wr : World} {ad2 : List Nat} {vals : List Value} (h : RI (A := A) (B := B) (K := K) (gv := gv) (wv := wv) w ad fl own own2 p p2 gm n ts σ o wr ad2 vals) (hn : vals.length < n) {q : TR × St} {v : Value} {ad3 : List Nat} {w2 : World} {o1 : ω} (hv : RV ad3 q.1 v) (hT : TI A B K w2 ad3 q.2 own2 gv p2 gm o1) (hg : Gk B ad2 ad3 wr w2) (hB : B ≤ w.heap.size) :
    RI (A := A) (B := B) (K := K) (gv := gv) (wv := wv) w ad fl own own2 p p2 gm n (ts ++ [q.1]) q.2 o1 (w2.setCell ⟨w.heap.size + 1 + 1 + 1, vals.length, none⟩ v) ad3 (vals ++ [v]) := by
  have hrow := hg.oth (by decide) h.row
  have hne : ∀ q, q ≠ w.heap.size + 1 + 1 + 1 → (w2.setCell ⟨w.heap.size + 1 + 1 + 1, vals.length, none⟩ v).heap[q]? = w2.heap[q]? := fun q hq => Below.heap_setCell _ _ _ q (fun z => hq z)
  have hT1 : TI A B K w2 ad3 q.2 own gv p gm o1 := ⟨hT.sx, hT.ws, hT.ga, hg.ch h.ti.ch, hT.gm, hT.k⟩
  refine ⟨(hne _ (by omega)).trans (hg.oth (by decide) h.by0), (hne _ (by omega)).trans (hg.oth (by decide) h.sc), (hne _ (by omega)).trans (hg.oth (by decide) h.so), ?_, (h.rv.gk hg).snoc hv, hT1.row hR hrow (by omega) _ _, (hT.row hR hrow (by omega) _ _).ch, (h.gk.trans hg).row (by omega) _ _⟩
  rw [rep_cons hn] at hrow
  have := row_set hrow vals.length rfl v
  rw [this, List.length_append, List.length_singleton, List.append_assoc]
  rfl
end
end Go.Proofs.YtleenphlgbklmabGreatDoor

namespace Go.Proofs.YtleenphlgbklmabGreatDoor
open Go.RowKit

section
variable {ω : Type} {A : Nat → Addr} {B : Nat} {K : World → ω → Prop} {gv : Gv} {fuel : Nat} {wv : Value}
set_option maxRecDepth 20000 in
set_option maxHeartbeats 4000000 in
theorem round_sx (hK : KOk K) (hR : KRw K) {f : X → List Bd → St → ω → Option (Oc (TR × St) × ω)} (hf : STf A B K gv fuel wv f) {vs : List X} {own own2 : List Bd} {σ : St} {o : ω} {res : Oc (List TR × St) × ω} (h : rnd1 (fun x => f x own2) vs own σ o = some res) {w : World} {ad : List Nat} {p p2 : Option Addr} {gm eb gx cap : Nat} {nv q : Value} {dpt : Int} {ps : List Value}
    (hb : w.heap[eb]? = some (.cells #[.int .i64 dpt, nv, .slice (some ⟨gx, 0, none⟩) ps.length cap, q] 291 (0, 0))) (hl : ps.length = vs.length) (hm : ps.length ≤ 1000000) {cur : Array Value} (hx : w.heap[gx]? = some (.cells cur 107 (0, 0))) (hps : ∀ j (h : j < ps.length), cur[j]? = some ps[j]) (hpx : ∀ j (h : j < vs.length) (h2 : j < ps.length), PX w (fun _ => True) vs[j] ps[j]) (hT : TI A B K w ad σ own gv p gm o) (hT2 : CH w (RV ad) own2 (.pointer p2)) :
    Calls Tryz.prog 181 #[.agg #[.int .i64 fuel, wv], .pointer (some ⟨eb, 0, none⟩), .agg #[.pointer p2, .map (some gm)], .agg #[.pointer p, .map (some gm)]] w fun e w' => RnO A B K ad w e w' res.2 res.1 := by
  have k1 : Kept w (w.alloc (.cells #[.int .i64 fuel, wv] 103)) := Kept.alloc _ _
  have k2 := Kept.alloc (w.alloc (.cells #[.int .i64 fuel, wv] 103)) (.cells #[.pointer p2, .map (some gm)] 168)
  have k3 := Kept.alloc ((w.alloc (.cells #[.int .i64 fuel, wv] 103)).alloc (.cells #[.pointer p2, .map (some gm)] 168)) (.cells #[.pointer p, .map (some gm)] 168)
  have hk0 := (k1.trans k2).trans k3
  have b1 := k3.blk (k2.blk (heap_alloc_new w (.cells #[.int .i64 fuel, wv] 103)))
  have b2 := k3.blk (heap_alloc_new (w.alloc (.cells #[.int .i64 fuel, wv] 103)) (.cells #[.pointer p2, .map (some gm)] 168))
  have b3 := heap_alloc_new ((w.alloc (.cells #[.int .i64 fuel, wv] 103)).alloc (.cells #[.pointer p2, .map (some gm)] 168)) (.cells #[.pointer p, .map (some gm)] 168)
  have s1 : (w.alloc (.cells #[.int .i64 fuel, wv] 103)).heap.size = w.heap.size + 1 := by simp
  have s2 : ((w.alloc (.cells #[.int .i64 fuel, wv] 103)).alloc (.cells #[.pointer p2, .map (some gm)] 168)).heap.size = w.heap.size + 1 + 1 := by simp
  rw [s1] at b2
  rw [s2] at b3
  clear s1 s2
  generalize hW : ((w.alloc (.cells #[.int .i64 fuel, wv] 103)).alloc (.cells #[.pointer p2, .map (some gm)] 168)).alloc (.cells #[.pointer p, .map (some gm)] 168) = W at *
  have c2 : W.cell? ⟨eb, 2, none⟩ = some (.slice (some ⟨gx, 0, none⟩) ps.length cap) := by simp [World.cell?, hk0.blk hb]
  have hmk := run_make_row' (P := Tryz.prog) 273 77 .nilIface 16 Tryz.underlying273 Tryz.infoTypI rfl .i64 .i64 ps.length (by omega) (by omega) W
  have k4 := Kept.alloc W (.cells (madeCells #[.nilIface] ps.length) 77)
  have c2' := k4.cell c2
  have hB := hT.ga.sz
  have HI : Hid (RI (A := A) (B := B) (K := K) (gv := gv) (wv := wv) w ad fuel own own2 p p2 gm ps.length [] σ o (W.alloc (.cells (madeCells #[.nilIface] ps.length) 77)) ad []) := by
    have hk := hk0.trans k4
    have hsz : W.heap.size = w.heap.size + 1 + 1 + 1 := by rw [← hW]; simp
    refine ⟨k4.blk b1, k4.blk b2, k4.blk b3, ?_, ⟨rfl, fun j h1 h2 => by simp at h1⟩, hT.kept hK hk, hT2.keep (fun q cs f h => hk.blk h), Gk.ofKt (Kt.of_kept hk)⟩
    rw [made_rep, ← hsz]
    exact heap_alloc_new _ _
  have HV : Hid (vrest (fun x => f x own2) [] (vs.drop 0) σ o = valsF (fun x => f x own2) vs σ o) := vrest_zero _ _ _ _
  have HL : Hid _ := hl
  have HX : Hid _ := hpx
  have HP : Hid (w.heap[gx]? = some (.cells cur 107 (0, 0)) ∧ ∀ j (h : j < ps.length), cur[j]? = some ps[j]) := ⟨hx, hps⟩
  have HH : Hid _ := h
  have HF : Hid _ := hf
  clear k1 k2 k3 k4 hl hps hpx hT hT2 h hf b1 b2 b3 hk0 hb hx
  subst hW
  go_enter Tryz.func181, Tryz.ntmps181
  go_wp2_with fail
  generalize (((w.alloc (.cells #[.int .i64 fuel, wv] 103)).alloc (.cells #[.pointer p2, .map (some gm)] 168)).alloc (.cells #[.pointer p, .map (some gm)] 168)).alloc (.cells (madeCells #[.nilIface] ps.length) 77) = W0 at *
  clear hmk c2 c2'
  go_loopw [26] (fun i wr => ∃ (j : Nat) (ts : List TR) (σ1 : St) (o1 : ω) (ad2 : List Nat) (vals : List Value), j ≤ ps.length ∧ i = .int .i64 j ∧ Hid (vals.length = j) ∧ Hid (RI (A := A) (B := B) (K := K) (gv := gv) (wv := wv) w ad fuel own own2 p p2 gm ps.length ts σ1 o1 wr ad2 vals) ∧ Hid (vrest (fun x => f x own2) ts (vs.drop j) σ1 o1 = valsF (fun x => f x own2) vs σ o)) (fun i _ => ps.length - (intOf i).toNat)
  case atStart => exact ⟨0, [], σ, o, ad, [], Nat.zero_le _, rfl, rfl, HI, HV⟩
  case round =>
    obtain ⟨j, ts, σ1, o1, ad2, vals, hj, rfl, HJ, HI1, HV1⟩ := hrel
    by_cases hlt : j < ps.length
    · have hlv : j < vs.length := by rw [← HL.out]; exact hlt
      have HD : Hid (vs.drop j = vs[j] :: vs.drop (j + 1)) := List.drop_eq_getElem_cons hlv
      have hF := HI1.out
      have cx : wr.cell? ⟨gx, j, none⟩ = some ps[j] := by
        have := hF.gk.oth (by decide) HP.out.1
        simp [World.cell?, this, HP.out.2 j hlt]
      have d0 : wr.cell? ⟨w.heap.size, 0, none⟩ = some (.int .i64 fuel) := by simp [World.cell?, hF.by0]
      have d1 : wr.cell? ⟨w.heap.size, 1, none⟩ = some wv := by simp [World.cell?, hF.by0]
      have d2 : wr.cell? ⟨w.heap.size + 1, 0, none⟩ = some (.pointer p2) := by simp [World.cell?, hF.sc]
      have d3 : wr.cell? ⟨w.heap.size + 1, 1, none⟩ = some (.map (some gm)) := by simp [World.cell?, hF.sc]
      have hpx := HX.out j hlv hlt
      have hT2 : TI A B K wr ad2 σ1 own2 gv p2 gm o1 := ⟨hF.ti.sx, hF.ti.ws, hF.ti.ga, hF.ch, hF.ti.gm, hF.ti.k⟩
      obtain ⟨T, u, eT⟩ := hpx.iface
      rw [eT] at cx hpx
      -- what the mirror says of this value
      have hsome : ∃ r, f vs[j] own2 σ1 o1 = some r := by
        have h1 := HV1.out
        have h2 := HH.out
        simp only [rnd1, Option.bind_eq_some_iff] at h2
        obtain ⟨r, h2, _⟩ := h2
        rw [h2, HD.out] at h1
        simp only [vrest, valsF, Option.bind_eq_some_iff] at h1
        obtain ⟨_, ⟨r', h3, _⟩, _⟩ := h1
        exact ⟨r', h3⟩
      obtain ⟨⟨r1, o2⟩, hr1⟩ := hsome
      have HC : Hid (Calls Tryz.prog 73 #[.agg #[.int .i64 fuel, wv], .iface T u, .agg #[.pointer p2, .map (some gm)]] wr fun e w2 => (∃ a, e = thrown (.iface 342 (.pointer (some a))) ∧ RnO A B K ad w (thrown (.iface 342 (.pointer (some a)))) w2 res.2 res.1) ∨ (∃ T2 u2, e = .returned (.iface T2 u2) ∧ w2.cell? ⟨w.heap.size + 1 + 1 + 1, j, none⟩ = some .nilIface ∧ w2.frozen? ⟨w.heap.size + 1 + 1 + 1, j, none⟩ = false ∧ Hid (∃ (q : TR × St) (ad3 : List Nat), Hid (RI (A := A) (B := B) (K := K) (gv := gv) (wv := wv) w ad fuel own own2 p p2 gm ps.length (ts ++ [q.1]) q.2 o2 (w2.setCell ⟨w.heap.size + 1 + 1 + 1, j, none⟩ (.iface T2 u2)) ad3 (vals ++ [.iface T2 u2])) ∧ Hid (vrest (fun x => f x own2) (ts ++ [q.1]) (vs.drop (j + 1)) q.2 o2 = valsF (fun x => f x own2) vs σ o)))) := by
        have hJ : vals.length = j := HJ.out
        refine (STf.call HF.out hr1 (hpx.gk hF.gk) hT2).mono ?_
        rintro e w2 (⟨i, rfl, rfl, hk, hw⟩ | ⟨q, T2, u2, ad3, rfl, rfl, hv, hT3, hg⟩)
        · have h1 := HV1.out
          rw [HD.out, vrest_er (fun x => f x own2) ts vs[j] _ σ1 o1 hr1] at h1
          have h2 := HH.out
          simp only [rnd1, ← h1, Option.bind_some, Option.some.injEq] at h2
          subst h2
          exact .inl ⟨_, rfl, rfl, hk, (hF.gk.trans (Gk.ofKw hw)).kw⟩
        · have hrow := hg.oth (by decide) hF.row
          rw [rep_cons (by rw [hJ]; exact hlt)] at hrow
          refine .inr ⟨T2, u2, rfl, row_get hrow j hJ.symm, by simp [World.frozen?, hrow], q, ad3, ?_, ?_⟩
          · have := hF.step hR (by rw [hJ]; exact hlt) hv hT3 hg hB
            rwa [hJ] at this
          · have h1 := HV1.out
            rw [HD.out, vrest_ok (fun x => f x own2) ts vs[j] _ σ1 o1 hr1] at h1
            exact h1
      clear hF hpx hT2 hr1 eT HI HV HX HP HF HH HI1 HV1 HL HD
      go_wp2_with fail
      refine Calls.mono HC.out ?_
      rintro e w2 (⟨a, rfl, hE⟩ | ⟨T2, u2, rfl, m0, m1, HN⟩)
      · go_wp2
        exact ⟨rfl, hE⟩
      · clear HC
        obtain ⟨q, ad3, HI2, HV2⟩ := HN.out
        have HJ2 : Hid ((vals ++ [Value.iface T2 u2]).length = j + 1) := by
          show _ = _
          rw [List.length_append, HJ.out]
          rfl
        clear HN
        go_wp2
        go_roundw
        case measure => simp [intOf]; omega
        case rel => exact ⟨j + 1, ts ++ [q.1], q.2, o2, ad3, vals ++ [.iface T2 u2], hlt, by go_num, HJ2, HI2, HV2⟩
    · obtain rfl : j = ps.length := by omega
      have hF := HI1.out
      have hJ : vals.length = ps.length := HJ.out
      obtain ⟨bd, σ2, hbd, hgs, rfl⟩ : ∃ bd σ2, boundF σ1 own [] = some bd ∧ gensF σ1 bd ts = some σ2 ∧ res = (.ok (ts, σ2), o1) := by
        have h1 := HV1.out
        have h2 := HH.out
        rw [List.drop_of_length_le (by rw [HL.out]; omega), vrest_nil] at h1
        simp only [rnd1, ← h1, Option.bind_some, Option.bind_eq_some_iff, Option.some.injEq] at h2
        obtain ⟨bd, h3, σ2, h4, rfl⟩ := h2
        exact ⟨bd, σ2, h3, h4, rfl⟩
      have d2 : wr.cell? ⟨w.heap.size + 1 + 1, 0, none⟩ = some (.pointer p) := by simp [World.cell?, hF.so]
      have d3 : wr.cell? ⟨w.heap.size + 1 + 1, 1, none⟩ = some (.map (some gm)) := by simp [World.cell?, hF.so]
      have HC : Hid _ := bound_sx (gm := gm) hbd hF.ti.sx hF.ti.ch
      have hrow : TRow wr (w.heap.size + 1 + 1 + 1) vals := by
        have := hF.row
        rw [hJ, Nat.sub_self, List.replicate_zero, List.append_nil] at this
        exact this
      have HR : Hid _ := hrow
      have HG : Hid (gensF σ1 bd (ts.drop 0) = some σ2) := hgs
      have hlt2 : ts.length = ps.length := by rw [← hF.rv.1, hJ]
      have HLT : Hid _ := hlt2
      clear hF hJ hbd hgs hrow HI HV HX HP HF HH HV1 HL hlt2
      go_wp2_with fail
      refine Calls.mono HC.out ?_
      rintro e w3 ⟨mb, rfl, htm, hs3, hmb, hk3⟩
      have HS : Hid (SX w3 ad2 σ1 ∧ TMp w3 mb ad2 (pvP bd) ∧ WS σ1) := ⟨hs3, htm, HI1.out.ti.ws⟩
      have HK3 : Hid _ := hk3
      clear HC hs3 htm hk3
      go_wp2_with fail
      obtain ⟨wq, hwq⟩ : ∃ wq, wq = wr := ⟨wr, rfl⟩
      subst hwq
      go_loopw [43] (fun i wr2 => ∃ (j : Nat) (σj : St), j ≤ ps.length ∧ i = .int .i64 j ∧ Hid (SX wr2 ad2 σj ∧ TMp wr2 mb ad2 (pvP bd) ∧ WS σj) ∧ Hid (Kt ad2 (fun _ => False) wq wr2) ∧ Hid (gensF σj bd (ts.drop j) = some σ2)) (fun i _ => ps.length - (intOf i).toNat)
      case atStart => exact ⟨0, σ1, Nat.zero_le _, rfl, HS, HK3, HG⟩
      case round =>
        obtain ⟨j, σj, hj2, rfl, HSj, HKj, HGj⟩ := hrel
        by_cases hlt2 : j < ps.length
        · have hlv : j < vals.length := by rw [HJ.out]; exact hlt2
          have hlt3 : j < ts.length := by rw [HLT.out]; exact hlt2
          have c0 := (TRow.kt HR.out HKj.out).cell j hlv
          have hv := HI1.out.rv.2 j hlt3 hlv
          obtain ⟨σk, hg1, hg2⟩ : ∃ σk, genF 500 σj ts[j] bd = some σk ∧ gensF σk bd (ts.drop (j + 1)) = some σ2 := by
            have := HGj.out
            rw [List.drop_eq_getElem_cons hlt3] at this
            simpa only [gensF, Option.bind_eq_some_iff] using this
          have HC : Hid (Calls Tryz.prog 102 #[vals[j], .map (some mb)] wr fun e w' => e = .returned (.tuple #[]) ∧ Hid (SX w' ad2 σk ∧ TMp w' mb ad2 (pvP bd) ∧ WS σk) ∧ Hid (Kt ad2 (fun _ => False) wq w')) := by
            refine (gen_sx 500 σj σk ts[j] bd hg1 wr ad2 vals[j] mb HSj.out.1 hv HSj.out.2.1).mono ?_
            rintro e w' ⟨rfl, h1, h2, h3⟩
            exact ⟨rfl, ⟨h1, h2, HSj.out.2.2.gen 500 hg1⟩, HKj.out.trans h3⟩
          have HG2 : Hid _ := hg2
          obtain ⟨T, u, eT⟩ := hv.iface
          rw [eT] at c0 HC
          clear hv hg1 hg2 eT HSj HKj HGj HS HK3 HG HR
          go_wp2_with fail
          refine Calls.mono HC.out ?_
          rintro e w' ⟨rfl, HS', HK'⟩
          clear HC
          go_wp2
          go_roundw
          case measure => simp [intOf]; omega
          case rel => exact ⟨j + 1, σk, hlt2, by go_num, HS', HK', HG2⟩
        · obtain rfl : σj = σ2 := by
            have := HGj.out
            rw [List.drop_of_length_le (by rw [HLT.out]; omega)] at this
            simpa [gensF] using this
          have HE : Hid (RnO A B K ad w (.returned (.slice (some ⟨w.heap.size + 1 + 1 + 1, 0, none⟩) ps.length ps.length)) wr o1 (.ok (ts, σj))) := by
            have hF := HI1.out
            refine ⟨w.heap.size + 1 + 1 + 1, vals, ad2, by rw [HLT.out], by omega, TRow.kt HR.out HKj.out, hF.rv, HSj.out.1, HSj.out.2.2, hK _ _ _ _ hF.ti.k HKj.out, hF.gk.trans (Gk.ofKt HKj.out)⟩
          clear HSj HKj HGj HS HK3 HG HR HI1
          go_wp2
          exact bodyPost_ret (results_tmp Tryz.results181 _ _ _) rfl HE.out
end
end Go.Proofs.YtleenphlgbklmabGreatDoor

namespace Go.Proofs.YtleenphlgbklmabGreatDoor
open Go.RowKit

section
variable {ω : Type} (tl : List ByteArray → Nat → List TR → St → ω → Option (Oc Unit × ω)) (A : Nat → Addr) (B : Nat) (K : World → ω → Prop) (fuel : Nat) (wv : Value)
/-- how telling ends. -/
def TlO (ad : List Nat) (σ : St) (w : World) (e : Ending) (w' : World) (o : ω) : Oc Unit → Prop
  | .ok _ => e = .returned (.tuple #[]) ∧ SX w' ad σ ∧ K w' o ∧ Kw B ad w w'
  | .er j => Thr A j e ∧ K w' o ∧ Kw B ad w w'
/-- the program's tell does what the mirror does. -/
def STl : Prop := ∀ (names : List ByteArray) (rd : Nat) (ts : List TR) (σ : St) (o : ω) (r : Oc Unit × ω), tl names rd ts σ o = some r → names.length = ts.length → rd ≤ fuel → ∀ (w : World) (ad : List Nat) (ng cap g : Nat) (cur : Array Value) (vals : List Value), w.heap[ng]? = some (.cells cur 9 (0, 0)) → (∀ j (h : j < names.length), cur[j]? = some (.string names[j])) → TRow w g vals → RVs ad ts vals → SX w ad σ → WS σ → GA A B ad w → K w o →
  Calls Tryz.prog 182 #[.agg #[.int .i64 fuel, wv], .slice (some ⟨ng, 0, none⟩) names.length cap, .int .i64 rd, .slice (some ⟨g, 0, none⟩) ts.length ts.length] w fun e w' => TlO A B K ad σ w e w' r.2 r.1
end
theorem valsF_len {ω : Type} {typ : X → St → ω → Option (Oc (TR × St) × ω)} : ∀ {xs : List X} {σ : St} {o o' : ω} {q : List TR × St}, valsF typ xs σ o = some (.ok q, o') → q.1.length = xs.length
  | [], σ, o, o', q, h => by
    simp only [valsF, Option.some.injEq, Prod.mk.injEq, Oc.ok.injEq] at h
    rw [← h.1]
    rfl
  | x :: xs, σ, o, o', q, h => by
    simp only [valsF, Option.bind_eq_some_iff] at h
    obtain ⟨⟨r, o1⟩, _, h⟩ := h
    cases r with
    | er j => simp at h
    | ok p =>
      simp only [Option.bind_eq_some_iff] at h
      obtain ⟨⟨r, o2⟩, h2, h⟩ := h
      cases r with
      | er j => simp at h
      | ok q2 =>
        simp only [Option.some.injEq, Prod.mk.injEq, Oc.ok.injEq] at h
        rw [← h.1]
        simp [valsF_len h2]
theorem rnd1_len {ω : Type} {typ : X → St → ω → Option (Oc (TR × St) × ω)} {xs : List X} {own : List Bd} {σ : St} {o o' : ω} {q : List TR × St} (h : rnd1 typ xs own σ o = some (.ok q, o')) : q.1.length = xs.length := by
  simp only [rnd1, Option.bind_eq_some_iff] at h
  obtain ⟨⟨r, o1⟩, h1, h⟩ := h
  cases r with
  | er j => simp at h
  | ok p =>
    simp only [Option.bind_eq_some_iff, Option.some.injEq, Prod.mk.injEq, Oc.ok.injEq] at h
    obtain ⟨_, _, _, _, rfl, _⟩ := h
    show p.1.length = _
    exact valsF_len h1
theorem rndF_succ {ω : Type} {tl : List ByteArray → Nat → List TR → St → ω → Option (Oc Unit × ω)} {f : X → List Bd → St → ω → Option (Oc (TR × St) × ω)} {names : List ByteArray} {vs : List X} {own : List Bd} {fuel k rd : Nat} {ts : List TR} {σ : St} {o : ω} {res : Oc (List TR × St) × ω} (h : rndF tl f names vs own fuel (k + 1) rd ts σ o = some res) :
    ∃ rr o2, rnd1 (fun x => f x (grpF names ts own)) vs own σ o = some (rr, o2) ∧ ((∃ j, rr = .er j ∧ res = (.er j, o2)) ∨ ∃ ts2 σ2 rt o3, rr = .ok (ts2, σ2) ∧ tl names rd ts2 σ2 o2 = some (rt, o3) ∧ ((∃ j, rt = .er j ∧ res = (.er j, o3)) ∨ ∃ b, rt = .ok () ∧ samesF σ2 ts ts2 = some b ∧ ((b = true ∧ res = (.ok (ts2, σ2), o3)) ∨ (b = false ∧ rd = fuel ∧ res = (.er 5, o3)) ∨ (b = false ∧ rd ≠ fuel ∧ rndF tl f names vs own fuel k (rd + 1) ts2 σ2 o3 = some res)))) := by
  simp only [rndF, Option.bind_eq_some_iff] at h
  obtain ⟨⟨r, o2⟩, h1, h⟩ := h
  cases r with
  | er j =>
    simp only [Option.some.injEq] at h
    subst h
    exact ⟨.er j, o2, by simp [rnd1, h1], .inl ⟨j, rfl, rfl⟩⟩
  | ok q =>
    simp only [Option.bind_eq_some_iff] at h
    obtain ⟨bd, hb, σ2, hg, ⟨rt, o3⟩, ht, h⟩ := h
    refine ⟨.ok (q.1, σ2), o2, by simp [rnd1, h1, hb, hg], .inr ⟨q.1, σ2, rt, o3, rfl, ht, ?_⟩⟩
    cases rt with
    | er j =>
      simp only [Option.some.injEq] at h
      subst h
      exact .inl ⟨j, rfl, rfl⟩
    | ok u =>
      simp only [Option.bind_eq_some_iff] at h
      obtain ⟨b, hs, h⟩ := h
      refine .inr ⟨b, rfl, hs, ?_⟩
      cases b with
      | true =>
        simp only [if_true, Option.some.injEq] at h
        exact .inl ⟨rfl, h.symm⟩
      | false =>
        simp only [Bool.false_eq_true, if_false] at h
        by_cases hr : rd = fuel
        · simp only [hr, beq_self_eq_true, if_true, Option.some.injEq] at h
          exact .inr (.inl ⟨rfl, hr, h.symm⟩)
        · have hb' : (rd == fuel) = false := by simpa using hr
          simp only [hb', Bool.false_eq_true, if_false] at h
          exact .inr (.inr ⟨rfl, hr, h⟩)
/-- what stands ahead of a round. -/
structure LI {ω : Type} (A : Nat → Addr) (B : Nat) (K : World → ω → Prop) (gv : Gv) (fl : Int) (wv : Value) (w : World) (ad : List Nat) (own : List Bd) (p : Option Addr) (gm eb : Nat) (cs : Array Value) (ts : List TR) (σ : St) (o : ω) (wr : World) (ad2 : List Nat) (g : Nat) (vals : List Value) : Prop where
  row : TRow wr g vals
  rv : RVs ad2 ts vals
  ti : TI A B K wr ad2 σ own gv p gm o
  fx : FX wr w.heap.size (w.heap.size + 1) eb fl wv p gm cs 291
  gk : Gk B ad ad2 w wr
  low : w.heap.size ≤ g
section
variable {ω : Type} {tl : List ByteArray → Nat → List TR → St → ω → Option (Oc Unit × ω)} {A : Nat → Addr} {B : Nat} {K : World → ω → Prop} {gv : Gv} {fuel : Nat} {wv : Value}
set_option maxRecDepth 20000 in
set_option maxHeartbeats 4000000 in
theorem last_sx (hK : KOk K) (hR : KRw K) {f : X → List Bd → St → ω → Option (Oc (TR × St) × ω)} (hf : STf A B K gv fuel wv f) (ht : STl tl A B K fuel wv) {names : List ByteArray} {vs : List X} {own : List Bd} {σ : St} {o : ω} {res : Oc (List TR × St) × ω} (h : rndF tl f names vs own fuel fuel 1 (anyF names.length σ).1 (anyF names.length σ).2 o = some res) (hfu : fuel ≤ 9000000000000000000) {w : World} {ad : List Nat} {p : Option Addr} {gm eb ng ncap gx cap : Nat} {q : Value} {dpt : Int} {ps : List Value}
    (hb : w.heap[eb]? = some (.cells #[.int .i64 dpt, .slice (some ⟨ng, 0, none⟩) names.length ncap, .slice (some ⟨gx, 0, none⟩) ps.length cap, q] 291 (0, 0))) (hl : ps.length = vs.length) (hln : names.length = vs.length) (hm : ps.length ≤ 1000000) {cur ncur : Array Value} (hx : w.heap[gx]? = some (.cells cur 107 (0, 0))) (hps : ∀ j (h : j < ps.length), cur[j]? = some ps[j]) (hn : w.heap[ng]? = some (.cells ncur 9 (0, 0))) (hns : ∀ j (h : j < names.length), ncur[j]? = some (.string names[j])) (hpx : ∀ j (h : j < vs.length) (h2 : j < ps.length), PX w (fun _ => True) vs[j] ps[j]) (hT : TI A B K w ad σ own gv p gm o) :
    Calls Tryz.prog 166 #[.agg #[.int .i64 fuel, wv], .pointer (some ⟨eb, 0, none⟩), .agg #[.pointer p, .map (some gm)]] w fun e w' => RnO A B K ad w e w' res.2 res.1 := by
  obtain ⟨hF, hk0⟩ := fx_start w eb fuel wv p gm hb
  have c1 := hF.x (i := 1) (v := .slice (some ⟨ng, 0, none⟩) names.length ncap) rfl
  have HA : Hid _ := any_sx (SX.kept hT.sx hk0) hT.ws names.length (by omega)
  have HL : Hid _ := And.intro hl hln
  have HH : Hid _ := h
  have HX : Hid _ := And.intro hx hps
  have HN : Hid _ := And.intro hn hns
  have HPX : Hid _ := hpx
  have HT : Hid _ := hT
  have HTl : Hid _ := ht
  have HFf : Hid _ := hf
  have HB : Hid _ := hb
  have HK0 : Hid _ := hk0
  have HF : Hid _ := hF
  have HKK : Hid (KOk K ∧ KRw K) := ⟨hK, hR⟩
  clear hl hln h hx hps hn hns hpx hT ht hf hb hk0 hF hK hR
  go_enter Tryz.func166, Tryz.ntmps166
  go_wp2_with fail
  generalize (w.alloc (.cells #[.int .i64 fuel, wv] 103)).alloc (.cells #[.pointer p, .map (some gm)] 168) = W at *
  refine Calls.mono HA.out ?_
  rintro e w1 ⟨g, vals, ad1, rfl, hrow, hrv, hs1, hw1, hg1, hgw⟩
  have hG1 : Gk B ad ad1 w w1 := (Gk.ofKt (Kt.of_kept HK0.out)).trans (Gk.of hgw)
  have HI : Hid (LI A B K gv fuel wv w ad own p gm eb #[.int .i64 dpt, .slice (some ⟨ng, 0, none⟩) names.length ncap, .slice (some ⟨gx, 0, none⟩) ps.length cap, q] (anyF names.length σ).1 (anyF names.length σ).2 o w1 ad1 g vals) := by
    have hT1 := HT.out.kept HKK.out.1 HK0.out
    exact ⟨hrow, hrv, hT1.to (Gk.of hgw) hs1 hw1 (HKK.out.1 _ _ _ _ hT1.k hgw.kt), FX.gk (B := B) HF.out (Gk.of hgw) (by decide), hG1, Nat.le_trans HK0.out.size hg1⟩
  have HLn : Hid ((anyF names.length σ).1.length = names.length) := by
    show _ = _
    rw [anyF_eq]
    simp
  clear hrow hrv hs1 hw1 hG1 hgw hg1 HA
  generalize (anyF names.length σ).1 = ts0 at *
  generalize (anyF names.length σ).2 = σ0 at *
  go_wp2_with fail
  go_loopw [7, 8] (fun s i wr => ∃ (k rd : Nat) (ts : List TR) (σ1 : St) (o1 : ω) (ad2 : List Nat) (g : Nat) (vals : List Value), rd + k = fuel + 1 ∧ s = .slice (some ⟨g, 0, none⟩) names.length names.length ∧ i = .int .i64 rd ∧ Hid (ts.length = names.length) ∧ Hid (rndF tl f names vs own fuel k rd ts σ1 o1 = some res) ∧ Hid (LI A B K gv fuel wv w ad own p gm eb #[.int .i64 dpt, .slice (some ⟨ng, 0, none⟩) names.length ncap, .slice (some ⟨gx, 0, none⟩) ps.length cap, q] ts σ1 o1 wr ad2 g vals)) (fun _ i _ => fuel + 1 - (intOf i).toNat)
  case atStart => exact ⟨fuel, 1, ts0, σ0, o, ad1, g, vals, by omega, rfl, rfl, HLn, HH, HI⟩
  case round =>
    obtain ⟨k, rd, ts, σ1, o1, ad2, g1, vals1, hrd, rfl, rfl, HLt, HR1, HI1⟩ := hrel
    cases k with
    | zero => exact absurd HR1.out (by simp [rndF])
    | succ k =>
    obtain ⟨rr, o2, hr1, hcase⟩ := rndF_succ HR1.out
    have HCa : Hid _ := hcase
    have hF := HI1.out
    have hkd := Kept.drew wr
    have hFd := hF.fx.kept hkd
    have hgd : Gk B ad ad2 w wr.drew := hF.gk.trans (Gk.ofKt (Kt.of_kept hkd))
    have hTd := hF.ti.kept HKK.out.1 hkd
    have HC : Hid (Calls Tryz.prog 141 #[.agg #[.pointer p, .map (some gm)], .slice (some ⟨ng, 0, none⟩) names.length ncap, .slice (some ⟨g1, 0, none⟩) names.length names.length] wr.drew fun e w2 => ∃ q2, e = .returned (.agg #[.pointer q2, .map (some gm)]) ∧ w2.cell? ⟨w.heap.size, 0, none⟩ = some (.int .i64 fuel) ∧ w2.cell? ⟨w.heap.size, 1, none⟩ = some wv ∧ w2.cell? ⟨w.heap.size + 1, 0, none⟩ = some (.pointer p) ∧ w2.cell? ⟨w.heap.size + 1, 1, none⟩ = some (.map (some gm)) ∧ w2.cell? ⟨eb, 1, none⟩ = some (.slice (some ⟨ng, 0, none⟩) names.length ncap) ∧
        Hid (Calls Tryz.prog 181 #[.agg #[.int .i64 fuel, wv], .pointer (some ⟨eb, 0, none⟩), .agg #[.pointer q2, .map (some gm)], .agg #[.pointer p, .map (some gm)]] w2 fun e w3 => (∃ a, e = thrown (.iface 342 (.pointer (some a))) ∧ RnO A B K ad w (thrown (.iface 342 (.pointer (some a)))) w3 res.2 res.1) ∨ (∃ g3, e = .returned (.slice (some ⟨g3, 0, none⟩) names.length names.length) ∧ w3.cell? ⟨w.heap.size, 0, none⟩ = some (.int .i64 fuel) ∧ w3.cell? ⟨w.heap.size, 1, none⟩ = some wv ∧ w3.cell? ⟨w.heap.size + 1, 0, none⟩ = some (.pointer p) ∧ w3.cell? ⟨w.heap.size + 1, 1, none⟩ = some (.map (some gm)) ∧ w3.cell? ⟨eb, 1, none⟩ = some (.slice (some ⟨ng, 0, none⟩) names.length ncap) ∧ Hid (∃ ts2 σ2 ad3 vals3, rr = .ok (ts2, σ2) ∧ ts2.length = names.length ∧ TRow w3 g1 vals1 ∧ RVs ad3 ts vals1 ∧ LI A B K gv fuel wv w ad own p gm eb #[.int .i64 dpt, .slice (some ⟨ng, 0, none⟩) names.length ncap, .slice (some ⟨gx, 0, none⟩) ps.length cap, q] ts2 σ2 o2 w3 ad3 g3 vals3)))) := by
      have hlt : names.length = ts.length := HLt.out.symm
      have hn1 := hgd.oth (by decide) HN.out.1
      have hrw := hF.row
      refine (withg_any (R := RV ad2) (ts := ts) (vals := vals1) (own := own) hlt hF.rv.1 (by have := HL.out; omega) (fun j h => by simp [World.cell?, hn1, HN.out.2 j h]) (fun j h => (TRow.kt hrw (Kt.of_kept (ad := []) hkd)).cell j h) (fun v hv => ?_) hF.rv.2 hTd.ch).mono ?_
      · obtain ⟨j, hj, rfl⟩ := List.mem_iff_getElem.1 hv
        exact .inr (hF.rv.2 j (by rw [← hF.rv.1]; exact hj) hj).iface
      · rintro e w2 ⟨q2, rfl, hc2, hk2⟩
        have hF2 := hFd.kept hk2
        have hg2 := hgd.trans (Gk.ofKt (Kt.of_kept hk2))
        obtain ⟨d0, d1, d2, d3⟩ := hF2.c
        refine ⟨q2, rfl, d0, d1, d2, d3, hF2.x (i := 1) rfl, ?_⟩
        refine (round_sx HKK.out.1 HKK.out.2 HFf.out hr1 hF2.ex HL.out.1 hm (hg2.oth (by decide) HX.out.1) HX.out.2 (fun j h h2 => (HPX.out j h h2).gk hg2) (hTd.kept HKK.out.1 hk2) hc2).mono ?_
        intro e w3 hE
        cases rr with
        | er j =>
          rcases HCa.out with ⟨j', ej, rfl⟩ | ⟨_, _, _, _, ej, _⟩
          · cases ej
            exact .inl ⟨_, hE.1, rfl, hE.2.1, (hg2.trans (Gk.ofKw hE.2.2)).kw⟩
          · cases ej
        | ok q3 =>
          obtain ⟨g3, vals3, ad3, rfl, hlo, hrow3, hrv3, hs3, hw3, hk3, hg3⟩ := hE
          have hF3 := hF2.gk hg3 (by decide)
          obtain ⟨f0, f1, f2, f3⟩ := hF3.c
          have hlen : q3.1.length = names.length := (rnd1_len hr1).trans HL.out.2.symm
          rw [hlen]
          have hrw3 : TRow w3 g1 vals1 := hg3.oth (by decide) (hk2.blk (hkd.blk hrw))
          exact .inr ⟨g3, rfl, f0, f1, f2, f3, hF3.x (i := 1) rfl, q3.1, q3.2, ad3, vals3, rfl, hlen, hrw3, hF.rv.gk hg3, hrow3, hrv3, (hTd.kept HKK.out.1 hk2).to hg3 hs3 hw3 hk3, hF3, hg2.trans hg3, Nat.le_trans hg2.kw.size hlo⟩
    obtain ⟨c0, c1, c2, c3⟩ := hFd.c
    have c4 := hFd.x (i := 1) (v := .slice (some ⟨ng, 0, none⟩) names.length ncap) rfl
    clear hr1 hcase hF hkd hFd hgd hTd HI HI1 HR1 HX HPX HT HB HF HH HK0 HFf HLn
    go_wp2_with fail
    go_region_held2 (fun w' => w'.cell? ⟨w.heap.size, 0, none⟩ = some (.int .i64 fuel) ∧ w'.cell? ⟨w.heap.size, 1, none⟩ = some wv ∧ w'.cell? ⟨w.heap.size + 1, 0, none⟩ = some (.pointer p) ∧ w'.cell? ⟨w.heap.size + 1, 1, none⟩ = some (.map (some gm)) ∧ w'.cell? ⟨eb, 1, none⟩ = some (.slice (some ⟨ng, 0, none⟩) names.length ncap)) (go_keep) (first | (go_at_call 141; refine Calls.mono HC.out ?_; rintro e w2 ⟨q2, rfl, d0, d1, d2, d3, d4, HD⟩; clear HC) | (go_at_call 181; refine Calls.mono HD.out ?_; rintro e w3 (⟨a, rfl, hE⟩ | ⟨g3, rfl, f0, f1, f2, f3, f4, HE⟩); exact ⟨rfl, hE⟩; clear HD))
    obtain ⟨ts2, σ2, ad3, vals3, rfl, hlen2, hrw3, hrv3, hL3⟩ := HE.out
    rcases HCa.out with ⟨j, ej, _⟩ | ⟨ts2', σ2', rt, o3, ej, htl, hca⟩
    · cases ej
    cases ej
    have HCb : Hid _ := hca
    have HC2 : Hid (Calls Tryz.prog 182 #[.agg #[.int .i64 fuel, wv], .slice (some ⟨ng, 0, none⟩) names.length ncap, .int .i64 rd, .slice (some ⟨g3, 0, none⟩) names.length names.length] w3.drew fun e w4 => (∃ a, e = thrown (.iface 342 (.pointer (some a))) ∧ RnO A B K ad w (thrown (.iface 342 (.pointer (some a)))) w4 res.2 res.1) ∨ (e = .returned (.tuple #[]) ∧ w4.cell? ⟨w.heap.size, 0, none⟩ = some (.int .i64 fuel) ∧ w4.cell? ⟨w.heap.size, 1, none⟩ = some wv ∧ w4.cell? ⟨eb, 1, none⟩ = some (.slice (some ⟨ng, 0, none⟩) names.length ncap) ∧ Hid (rt = .ok () ∧ TRow w4 g1 vals1 ∧ RVs ad3 ts vals1 ∧ LI A B K gv fuel wv w ad own p gm eb #[.int .i64 dpt, .slice (some ⟨ng, 0, none⟩) names.length ncap, .slice (some ⟨gx, 0, none⟩) ps.length cap, q] ts2 σ2 o3 w4 ad3 g3 vals3))) := by
      have hkd := Kept.drew w3
      have hTd := hL3.ti.kept HKK.out.1 hkd
      have hgd : Gk B ad ad3 w w3.drew := hL3.gk.trans (Gk.ofKt (Kt.of_kept hkd))
      have hrd3 : TRow w3.drew g3 vals3 := hkd.blk hL3.row
      have h0 := HTl.out names rd ts2 σ2 o2 (rt, o3) htl hlen2.symm (by omega) w3.drew ad3 ng ncap g3 ncur vals3 (hgd.oth (by decide) HN.out.1) HN.out.2 hrd3 hL3.rv hTd.sx hTd.ws hTd.ga hTd.k
      rw [hlen2] at h0
      refine h0.mono ?_
      intro e w4 hE
      cases rt with
      | er j =>
        rcases HCb.out with ⟨j', ej, rfl⟩ | ⟨_, ej, _⟩
        · cases ej
          exact .inl ⟨_, hE.1, rfl, hE.2.1, (hgd.trans (Gk.ofKw hE.2.2)).kw⟩
        · cases ej
      | ok u =>
        obtain ⟨rfl, hs4, hk4, hw4⟩ := hE
        have hg4 : Gk B ad3 ad3 w3.drew w4 := Gk.ofKw hw4
        have hF4 := (hL3.fx.kept hkd).gk hg4 (by decide)
        obtain ⟨m0, m1, m2, m3⟩ := hF4.c
        have hr1 : TRow w4 g1 vals1 := hg4.oth (by decide) (hkd.blk hrw3)
        have hr3 : TRow w4 g3 vals3 := hg4.oth (by decide) hrd3
        exact .inr ⟨rfl, m0, m1, hF4.x (i := 1) rfl, rfl, hr1, hrv3, hr3, hL3.rv, hTd.to hg4 hs4 hTd.ws hk4, hF4, hgd.trans hg4, hL3.low⟩
    have e0 : w3.drew.cell? ⟨w.heap.size, 0, none⟩ = some (.int .i64 fuel) := f0
    have e1 : w3.drew.cell? ⟨w.heap.size, 1, none⟩ = some wv := f1
    have e4 : w3.drew.cell? ⟨eb, 1, none⟩ = some (.slice (some ⟨ng, 0, none⟩) names.length ncap) := f4
    clear hca htl hL3 hrv3 hrw3 HE HCa HN HTl
    have HL2 : Hid _ := hlen2
    clear hlen2
    go_wp2_with fail
    go_region_held2 (fun w' => w'.cell? ⟨w.heap.size, 0, none⟩ = some (.int .i64 fuel) ∧ w'.cell? ⟨w.heap.size, 1, none⟩ = some wv ∧ w'.cell? ⟨eb, 1, none⟩ = some (.slice (some ⟨ng, 0, none⟩) names.length ncap)) (go_keep) (first | (go_at_call 182; refine Calls.mono HC2.out ?_; rintro e w4 (⟨a, rfl, hE⟩ | ⟨rfl, m0, m1, m2, HM⟩); exact ⟨rfl, hE⟩; clear HC2))
    obtain ⟨rfl, hr1, hrv1, hL4⟩ := HM.out
    rcases HCb.out with ⟨_, ej, _⟩ | ⟨b, _, hsm, hfin⟩
    · cases ej
    have HFi : Hid _ := hfin
    have HS : Hid (Calls Tryz.prog 183 #[.slice (some ⟨g1, 0, none⟩) names.length names.length, .slice (some ⟨g3, 0, none⟩) names.length names.length] w4 fun e w5 => e = .returned (.bool b) ∧ w5.cell? ⟨w.heap.size, 0, none⟩ = some (.int .i64 fuel) ∧ Hid (LI A B K gv fuel wv w ad own p gm eb #[.int .i64 dpt, .slice (some ⟨ng, 0, none⟩) names.length ncap, .slice (some ⟨gx, 0, none⟩) ps.length cap, q] ts2 σ2 o3 w5 ad3 g3 vals3)) := by
      have h0 := sames_sx (cap := names.length) (cap2 := names.length) hsm (HL2.out.trans HLt.out.symm) (by have := HLt.out; have := HL.out; omega) hL4.ti.sx hr1 hL4.row hrv1 hL4.rv
      rw [show ts.length = names.length from HLt.out] at h0
      refine h0.mono ?_
      rintro e w5 ⟨rfl, hs5, hk5⟩
      have hg5 : Gk B ad3 ad3 w4 w5 := Gk.ofKt hk5
      have hF5 := hL4.fx.gk hg5 (by decide)
      exact ⟨rfl, hF5.c.1, TRow.kt hL4.row hk5, hL4.rv, hL4.ti.to hg5 hs5 hL4.ti.ws (HKK.out.1 _ _ _ _ hL4.ti.k hk5), hF5, hL4.gk.trans hg5, hL4.low⟩
    clear hfin hsm hL4 hrv1 hr1 HM HCb
    rcases HFi.out with ⟨rfl, rfl⟩ | ⟨rfl, hrf, rfl⟩ | ⟨rfl, hrf, hnx⟩
    · go_wp2_with fail
      refine Calls.mono HS.out ?_
      rintro e w5 ⟨rfl, n0, HL5⟩
      clear HS
      have HE5 : Hid (RnO A B K ad w (.returned (.slice (some ⟨g3, 0, none⟩) names.length names.length)) w5 o3 (.ok (ts2, σ2))) := by
        have h := HL5.out
        exact ⟨g3, vals3, ad3, by rw [HL2.out], h.low, h.row, h.rv, h.ti.sx, h.ti.ws, h.ti.k, h.gk⟩
      clear HL5
      go_wp2
      exact bodyPost_ret (results_tmp Tryz.results166 _ _ _) rfl HE5.out
    · subst hrf
      go_wp2_with fail
      refine Calls.mono HS.out ?_
      rintro e w5 ⟨rfl, n0, HL5⟩
      clear HS
      have hg := HL5.out.ti.ga.glb.c5
      have HR5 : Hid _ := prefuse_es (A 5) w5
      have HE5 : Hid (RnO A B K ad w (thrown (.iface 342 (.pointer (some (A 5))))) w5 o3 (.er 5)) := ⟨rfl, HL5.out.ti.k, HL5.out.gk.kw⟩
      clear HL5
      go_wp2_with fail
      refine Calls.mono HR5.out ?_
      rintro e w' ⟨rfl, hww⟩
      rw [hww]
      clear hww w' HR5
      go_wp2
      exact ⟨rfl, HE5.out⟩
    · go_wp2_with fail
      refine Calls.mono HS.out ?_
      rintro e w5 ⟨rfl, n0, HL5⟩
      clear HS
      have hri : ¬ (rd : Int) = (fuel : Int) := by omega
      have HNX : Hid _ := hnx
      clear hnx
      go_wp2
      go_roundw
      case measure => simp [intOf]; omega
      case rel => exact ⟨k, rd + 1, ts2, σ2, o3, ad3, g3, vals3, by omega, rfl, by go_num, HL2, HNX, HL5⟩
end
end Go.Proofs.YtleenphlgbklmabGreatDoor

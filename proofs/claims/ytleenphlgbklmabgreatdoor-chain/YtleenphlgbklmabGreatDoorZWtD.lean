import Derived.Test.YtleenphlgbklmabGreatDoorZPHb
import Derived.Test.YtleenphlgbklmabGreatDoorZWtC
set_option linter.unusedVariables false
set_option linter.unusedSimpArgs false
namespace Go.Proofs.YtleenphlgbklmabGreatDoor
open Go.RowKit

theorem treeF_dn : ∀ (n : Nat) {σ : St} {r : TR} {t : Ty}, treeF n σ r = some t → Dn σ r t := by
  intro n
  induction n with
  | zero => intro σ r t h; simp [treeF] at h
  | succ n ih =>
    intro σ r t h
    simp only [treeF, Option.bind_eq_some_iff] at h
    obtain ⟨r0, hr, h⟩ := h
    have hr := repF_rp _ hr
    cases r0 with
    | int => simp only [Option.some.injEq] at h; subst h; exact .int r hr
    | bool => simp only [Option.some.injEq] at h; subst h; exact .bool r hr
    | nd k i =>
      obtain ⟨nk, rfl, hi⟩ := hr.rt
      simp only [hi] at h
      cases nk with
      | vr nm g => simp only [Option.some.injEq] at h; subst h; exact .var r i hr
      | ls x =>
        simp only [Option.bind_eq_some_iff, Option.some.injEq] at h
        obtain ⟨a, ha, rfl⟩ := h
        exact .list r i x a hr hi (ih ha)
      | pr x y =>
        simp only [Option.bind_eq_some_iff, Option.some.injEq] at h
        obtain ⟨a, ha, c, hc, rfl⟩ := h
        exact .pair r i x y a c hr hi (ih ha) (ih hc)
      | ar x y =>
        simp only [Option.bind_eq_some_iff, Option.some.injEq] at h
        obtain ⟨a, ha, c, hc, rfl⟩ := h
        exact .fn r i x y a c hr hi (ih ha) (ih hc)
/-- what a text is typed to: a type's text, a refusal, a name that does not stand. -/
inductive IfO where
  | txt (t : ByteArray) | sen (j : Nat) | unb (loc : Nat) (n : ByteArray)
end Go.Proofs.YtleenphlgbklmabGreatDoor

namespace Go.Proofs.YtleenphlgbklmabGreatDoor
open Go.RowKit

def gnB (σ : St) (n : Nat) : Bool := match σ[n]? with
  | some ⟨.vr _ true, _⟩ => true
  | _ => false
theorem gnB_ok {σ : St} {n : Nat} (h : gnB σ n = true) : ∃ nm s, σ[n]? = some ⟨.vr nm true, s⟩ := by
  unfold gnB at h
  split at h
  · rename_i nm s e
    exact ⟨nm, s, e⟩
  · cases h
def tyOk (σ : St) (t : Ty) : Bool := decide (sz t ≤ 260) && (varsM t []).all (gnB σ) && decide ((canT t).size ≤ 100000)
def treesF (σ : St) : List TR → Option (List Ty)
  | [] => some []
  | t :: ts => (treeF 500 σ t).bind fun x => (treesF σ ts).bind fun xs => some (x :: xs)
/-- what the watcher of plain.Watch is told. -/
def tlW (stop : Nat) (names : List ByteArray) (rd : Nat) (ts : List TR) (σ : St) (o : List Rdt) : Option (Oc Unit × List Rdt) :=
  if names.length ≤ 1000 ∧ o.length ≤ 1000 ∧ names ≠ [] ∧ (names.all fun n => decide (n.size ≤ 1000)) = true then
    (treesF σ ts).bind fun tys => if tys.all (tyOk σ) = true then some (if o.length + 1 = stop then .er 6 else .ok (), o ++ [(names, rd, tys.map canT)]) else none
  else none
theorem treesF_get {σ : St} : ∀ {ts : List TR} {tys : List Ty}, treesF σ ts = some tys → tys.length = ts.length ∧ ∀ j (h : j < ts.length) (h2 : j < tys.length), Dn σ ts[j] tys[j]
  | [], tys, h => by
    simp only [treesF, Option.some.injEq] at h
    subst h
    exact ⟨rfl, fun j h => by simp at h⟩
  | t :: ts, tys, h => by
    simp only [treesF, Option.bind_eq_some_iff, Option.some.injEq] at h
    obtain ⟨x, hx, xs, hxs, rfl⟩ := h
    obtain ⟨hl, hd⟩ := treesF_get hxs
    refine ⟨by simp [hl], fun j h1 h2 => ?_⟩
    match j with
    | 0 => exact treeF_dn _ hx
    | j + 1 => exact hd j (by simpa using h1) (by simpa using h2)
def watV (wb ob mb fb sb : Nat) : Value := .func (.func 28) #[] #[.pointer (some ⟨wb, 0, none⟩), .pointer (some ⟨ob, 0, none⟩), .pointer (some ⟨mb, 0, none⟩), .pointer (some ⟨fb, 0, none⟩), .pointer (some ⟨sb, 0, none⟩)]
theorem WKP.kt {P : Nat → Prop} {B wb ob sb stop : Nat} {w w' : World} {o : List Rdt} {ad : List Nat} (h : WKP P B wb ob sb stop w o) (k : Kt ad (fun _ => False) w w') : WKP P B wb ob sb stop w' o :=
  h.keep (fun q cs t hq _ ht => k.blk q _ hq id (by
    rintro ⟨cs', e, f, he, hh⟩
    simp only [Obj.cells.injEq] at he
    obtain ⟨_, rfl, _⟩ := he
    rcases ht with e | e | e | e <;> subst e <;> rcases hh with e | e | e | e <;> cases e))
/-- a row of texts that is being filled. -/
def FRw (w : World) (a k : Nat) (l : List ByteArray) : Prop := w.heap[a]? = some (.cells ((l.map Value.string) ++ List.replicate (k - l.length) (Value.string { data := #[] })).toArray 9 (0, 0))
theorem FRw.kept {w w' : World} {a k : Nat} {l : List ByteArray} (h : FRw w a k l) (hk : Kept w w') : FRw w' a k l := hk.blk h
theorem made_repS (k : Nat) : madeCells #[Value.string { data := #[] }] k = (List.replicate k (Value.string { data := #[] })).toArray := by
  rw [← toList_madeCells_one]
theorem FRw.srw {w : World} {a : Nat} {l : List ByteArray} (h : FRw w a l.length l) : SRw w a l := by
  refine ⟨_, h, fun j hj => ?_⟩
  simp [hj]
theorem FRw.set {w : World} {a k : Nat} {l : List ByteArray} (h : FRw w a k l) (hl : l.length < k) (s : ByteArray) : FRw (w.setCell ⟨a, l.length, none⟩ (.string s)) a k (l ++ [s]) ∧ w.cell? ⟨a, l.length, none⟩ = some (.string { data := #[] }) ∧ w.frozen? ⟨a, l.length, none⟩ = false := by
  unfold FRw at h
  have e : List.replicate (k - l.length) (Value.string { data := #[] }) = Value.string { data := #[] } :: List.replicate (k - l.length - 1) (Value.string { data := #[] }) := by
    rw [← List.replicate_succ]
    congr 1
    omega
  rw [e] at h
  refine ⟨?_, row_get h l.length (by simp), by simp [World.frozen?, h]⟩
  have := row_set h l.length (by simp) (.string s)
  unfold FRw
  rw [this]
  simp only [List.map_append, List.map_cons, List.map_nil, List.length_append, List.length_cons, List.length_nil, List.append_assoc, List.cons_append, List.nil_append, Nat.zero_add]
  rw [Nat.sub_add_eq]
theorem FRw.oth {w : World} {a b j k : Nat} {l : List ByteArray} {v : Value} (h : FRw w a k l) (hab : a ≠ b) : FRw (w.setCell ⟨b, j, none⟩ v) a k l := (Below.heap_setCell _ _ _ a (fun z => hab z)).trans h
theorem Kept.putc {w V : World} (h : Kept w V) {fb : Nat} (hf : w.heap.size ≤ fb) (j : Nat) (v : Value) : Kept w (V.setCell ⟨fb, j, none⟩ v) := ⟨h.os, h.output, by simpa using h.size, fun q hq => (Below.heap_setCell _ _ _ q (by intro z; simp at z; omega)).trans (h.block q hq)⟩
/-- what the walk over a group's names holds. -/
structure TLI (w1 : World) (a b k : Nat) (names texts : List ByteArray) (j : Nat) (wr : World) : Prop where
  kept : Kept w1 wr
  fa : FRw wr a k (names.take j)
  fb : FRw wr b k (texts.take j)
theorem TLI.step {w1 : World} {a b k : Nat} {names texts : List ByteArray} {j : Nat} {wr u : World} (h : TLI w1 a b k names texts j wr) (hk : Kept wr u) (hab : a ≠ b) (ha : w1.heap.size ≤ a) (hb : w1.heap.size ≤ b) (hn : names.length = k) (ht : texts.length = k) (hj : j < k) :
    u.cell? ⟨a, j, none⟩ = some (.string { data := #[] }) ∧ u.frozen? ⟨a, j, none⟩ = false ∧ (u.setCell ⟨a, j, none⟩ (.string (names[j]'(by omega)))).cell? ⟨b, j, none⟩ = some (.string { data := #[] }) ∧ (u.setCell ⟨a, j, none⟩ (.string (names[j]'(by omega)))).frozen? ⟨b, j, none⟩ = false ∧ TLI w1 a b k names texts (j + 1) ((u.setCell ⟨a, j, none⟩ (.string (names[j]'(by omega)))).setCell ⟨b, j, none⟩ (.string (texts[j]'(by omega)))) := by
  have l1 : (names.take j).length = j := by simp; omega
  have l2 : (texts.take j).length = j := by simp; omega
  have s1 := (h.fa.kept hk).set (by rw [l1]; exact hj) (names[j]'(by omega))
  rw [l1] at s1
  have h2 : FRw (u.setCell ⟨a, j, none⟩ (.string (names[j]'(by omega)))) b k (texts.take j) := (h.fb.kept hk).oth (fun z => hab z.symm)
  have s2 := h2.set (by rw [l2]; exact hj) (texts[j]'(by omega))
  rw [l2] at s2
  refine ⟨s1.2.1, s1.2.2, s2.2.1, s2.2.2, ((h.kept.trans hk).putc ha _ _).putc hb _ _, ?_, ?_⟩
  · rw [List.take_succ_eq_append_getElem (by omega)]
    exact s1.1.oth hab
  · rw [List.take_succ_eq_append_getElem (by omega)]
    exact s2.1
set_option maxRecDepth 20000 in
set_option maxHeartbeats 4000000 in
theorem tell_w {A : Nat → Addr} {B wb ob mb fb sb stop fuel : Nat} (hst : stop ≤ 1000000) : STl (tlW stop) A B (WK B wb ob sb stop) fuel (watV wb ob mb fb sb) := by
  intro names rd ts σ o r h hlen hrd w ad ng cap g cur vals hn hns hrow hrv hs hws hGA hK
  unfold tlW at h
  split at h
  · rename_i hc
    obtain ⟨hm, hol, hne, hnz⟩ := hc
    simp only [Option.bind_eq_some_iff] at h
    obtain ⟨tys, htys, h⟩ := h
    split at h
    · rename_i hall
      simp only [Option.some.injEq] at h
      obtain ⟨hlt, hdn⟩ := treesF_get htys
      have hq : ∀ W, (binOp .eql 73 (watV wb ob mb fb sb) .nilFunc).run Tryz.prog W = .ok (.bool false) W := fun W => by kernel_rfl
      have hk0 : Kept w (w.alloc (.cells #[.int .i64 fuel, watV wb ob mb fb sb] 103)) := Kept.alloc _ _
      have hb0 := heap_alloc_new w (.cells #[.int .i64 fuel, watV wb ob mb fb sb] 103)
      have c1 : (w.alloc (.cells #[.int .i64 fuel, watV wb ob mb fb sb] 103)).cell? ⟨w.heap.size, 1, none⟩ = some (watV wb ob mb fb sb) := cell_of hb0 rfl
      have hok : ∀ j (h : j < tys.length), sz tys[j] ≤ 260 ∧ (∀ n, n ∈ varsM tys[j] [] → ∃ nm s, σ[n]? = some ⟨.vr nm true, s⟩) ∧ (canT tys[j]).size ≤ 100000 := fun j hj => by
        have := List.all_eq_true.1 hall _ (List.getElem_mem hj)
        simp only [tyOk, Bool.and_eq_true, decide_eq_true_eq] at this
        exact ⟨this.1.1, fun n hn => gnB_ok (List.all_eq_true.1 this.1.2 n hn), this.2⟩
      have HL : Hid _ := los_sx (tys := tys) (TRow.kt hrow (Kt.of_kept (ad := []) hk0)) hrv (hs.kept hk0) hlt (by omega) (fun j h1 h2 => ⟨hdn j h1 h2, (hok j h2).1, (hok j h2).2.1⟩)
      have hmk : ∀ W : World, (Instr.makeSlice 26 (.int .i64 (ts.length : Nat)) (.int .i64 (ts.length : Nat))).run Tryz.prog W = .ok (.slice (some ⟨W.heap.size, 0, none⟩) ts.length ts.length) (W.alloc (.cells (List.replicate ts.length (Value.string { data := #[] })).toArray 9)) := fun W => by
        have := run_make_row' (P := Tryz.prog) 26 9 (.string { data := #[] }) 16 Tryz.underlying26 Tryz.infoSt rfl .i64 .i64 ts.length (by omega) (by omega) W
        rw [made_repS] at this
        exact this
      have HOK : Hid _ := hok
      have HNN : Hid (w.heap[ng]? = some (.cells cur 9 (0, 0)) ∧ ∀ j (h : j < names.length), cur[j]? = some (.string names[j])) := ⟨hn, hns⟩
      have HLN : Hid (names.length = ts.length ∧ tys.length = ts.length ∧ ts.length ≤ 1000) := ⟨hlen, hlt, by omega⟩
      have HNZ : Hid _ := hnz
      have HGA : Hid _ := hGA
      have HK : Hid (WK B wb ob sb stop w o) := hK
      have HOL : Hid (o.length ≤ 1000) := hol
      have HNE : Hid (names ≠ []) := hne
      have HR : Hid _ := h
      have HB0 : Hid _ := hb0
      have HK0 : Hid _ := hk0
      have HSX : Hid _ := hs
      clear hok hn hns hnz hGA hK hol hne h hdn htys hall hrow hrv hs hws hb0 hm
      rw [hlen]
      clear hlen hlt hk0
      unfold watV at *
      go_enter Tryz.func182, Tryz.ntmps182
      go_wp2_with fail
      generalize w.alloc (.cells #[.int .i64 fuel, .func (.func 28) #[] #[.pointer (some ⟨wb, 0, none⟩), .pointer (some ⟨ob, 0, none⟩), .pointer (some ⟨mb, 0, none⟩), .pointer (some ⟨fb, 0, none⟩), .pointer (some ⟨sb, 0, none⟩)]] 103) = W at *
      refine Calls.mono HL.out ?_
      rintro e w1 ⟨tb, bs, rfl, hbl, htb, hLS⟩
      have HBL : Hid (bs.length = ts.length) := hbl
      have HLS : Hid _ := hLS
      have HAT : Hid _ := atl_sx hLS hbl HLN.out.2.1 HLN.out.2.2 (fun t ht => by obtain ⟨j, hj, rfl⟩ := List.mem_iff_getElem.1 ht; exact (HOK.out j hj).2.2)
      clear hLS hbl HL c1
      go_wp2_with fail
      refine Calls.mono HAT.out ?_
      rintro e w2 ⟨rfl, hww⟩
      rw [hww]
      clear hww w2 HAT hq
      go_wp2_with fail
      go_cut [9, 10] (fun v1 v2 wx => ∃ a b, v1 = .slice (some ⟨a, 0, none⟩) ts.length ts.length ∧ v2 = .slice (some ⟨b, 0, none⟩) ts.length ts.length ∧ Hid (a ≠ b ∧ w1.heap.size ≤ a ∧ w1.heap.size ≤ b ∧ Kept w1 wx ∧ FRw wx a ts.length [] ∧ FRw wx b ts.length []))
      case first =>
        have hx1 := heap_alloc_new w1.drew (.cells (List.replicate ts.length (Value.string { data := #[] })).toArray 9)
        have hx2 := heap_alloc_new (w1.drew.alloc (.cells (List.replicate ts.length (Value.string { data := #[] })).toArray 9)) (.cells (List.replicate ts.length (Value.string { data := #[] })).toArray 9)
        have hk1 : Kept w1 (w1.drew.alloc (.cells (List.replicate ts.length (Value.string { data := #[] })).toArray 9)) := (Kept.drew w1).trans (Kept.alloc _ _)
        have hk2 : Kept (w1.drew.alloc (.cells (List.replicate ts.length (Value.string { data := #[] })).toArray 9)) ((w1.drew.alloc (.cells (List.replicate ts.length (Value.string { data := #[] })).toArray 9)).alloc (.cells (List.replicate ts.length (Value.string { data := #[] })).toArray 9)) := Kept.alloc _ _
        have hz : (w1.drew.alloc (.cells (List.replicate ts.length (Value.string { data := #[] })).toArray 9)).heap.size = w1.heap.size + 1 := by simp
        rw [hz] at hx2
        have HX : Hid (Kept w1 ((w1.drew.alloc (.cells (List.replicate ts.length (Value.string { data := #[] })).toArray 9)).alloc (.cells (List.replicate ts.length (Value.string { data := #[] })).toArray 9)) ∧ FRw ((w1.drew.alloc (.cells (List.replicate ts.length (Value.string { data := #[] })).toArray 9)).alloc (.cells (List.replicate ts.length (Value.string { data := #[] })).toArray 9)) w1.heap.size ts.length [] ∧ FRw ((w1.drew.alloc (.cells (List.replicate ts.length (Value.string { data := #[] })).toArray 9)).alloc (.cells (List.replicate ts.length (Value.string { data := #[] })).toArray 9)) (w1.heap.size + 1) ts.length []) := ⟨hk1.trans hk2, by unfold FRw; simpa using hk2.blk hx1, by unfold FRw; simpa using hx2⟩
        clear hx1 hx2 hk1 hk2 hz
        go_region
        all_goals
          go_wp2_with fail
          go_meet
          case rel =>
            first
              | exact ⟨w1.heap.size, w1.heap.size + 1, rfl, rfl, by omega, by omega, by omega, HX.out.1, HX.out.2.1, HX.out.2.2⟩
              | exact ⟨w1.heap.size + 1, w1.heap.size, rfl, rfl, by omega, by omega, by omega, HX.out.1, HX.out.2.2, HX.out.2.1⟩
      case rest =>
        obtain ⟨a, b, rfl, rfl, HX⟩ := hcut
        clear hmk
        obtain ⟨hab, ha, hb, hkx, hfa, hfb⟩ := HX.out
        have HI : Hid (TLI w1 a b ts.length names (tys.map canT) 0 wc) := ⟨hkx, hfa, hfb⟩
        have HKT : Hid (Kt ad (fun _ => False) w w1) := (Kt.of_kept HK0.out).trans HLS.out.kt
        clear hkx hfa hfb HX
        go_wp2_with fail
        go_loopw [28] (fun i wr => ∃ j : Nat, j ≤ ts.length ∧ i = .int .i64 j ∧ Hid (TLI w1 a b ts.length names (tys.map canT) j wr)) (fun i _ => ts.length - (intOf i).toNat)
        case atStart => exact ⟨0, Nat.zero_le _, rfl, HI⟩
        case round =>
          obtain ⟨j, hj, rfl, HJ⟩ := hrel
          have hts := HLN.out.2.2
          by_cases hjl : j < ts.length
          · have hjn : j < names.length := by rw [HLN.out.1]; exact hjl
            have hjt : j < tys.length := by rw [HLN.out.2.1]; exact hjl
            have hjb : j < bs.length := by rw [HBL.out]; exact hjl
            have hng := HJ.out.kept.blk (HKT.out.blk ng _ HNN.out.1 id (by
              rintro ⟨cs', e, f, he, hh⟩
              simp only [Obj.cells.injEq] at he
              obtain ⟨_, rfl, _⟩ := he
              rcases hh with e | e | e | e <;> cases e))
            have cn : wr.cell? ⟨ng, j, none⟩ = some (.string names[j]) := cell_of hng (HNN.out.2 j hjn)
            have ct : wr.cell? ⟨tb, j, none⟩ = some (.pointer (some ⟨bs[j], 0, none⟩)) := HJ.out.kept.cell (HLS.out.cell j hjb)
            obtain ⟨B', pm, fv, sp, hT, hdx, _⟩ := HLS.out.tls j hjb hjt
            have hnz : names[j].size ≤ 1000 := by
              have := List.all_eq_true.1 HNZ.out _ (List.getElem_mem hjn)
              simpa using this
            have HC : Hid (Calls Tryz.prog 89 #[.string names[j]] wr.drew fun e u1 => e = .returned (.string names[j]) ∧ u1.cell? ⟨tb, j, none⟩ = some (.pointer (some ⟨bs[j], 0, none⟩)) ∧
                Hid (Calls Tryz.prog 56 #[.pointer (some ⟨bs[j], 0, none⟩)] u1 fun e u2 => e = .returned (.string (canT tys[j])) ∧ u2.cell? ⟨a, j, none⟩ = some (.string { data := #[] }) ∧ u2.frozen? ⟨a, j, none⟩ = false ∧ (u2.setCell ⟨a, j, none⟩ (.string names[j])).cell? ⟨b, j, none⟩ = some (.string { data := #[] }) ∧ (u2.setCell ⟨a, j, none⟩ (.string names[j])).frozen? ⟨b, j, none⟩ = false ∧ Hid (TLI w1 a b ts.length names (tys.map canT) (j + 1) ((u2.setCell ⟨a, j, none⟩ (.string names[j])).setCell ⟨b, j, none⟩ (.string (canT tys[j])))))) := by
              refine (sclone_any _ wr.drew (by omega)).mono ?_
              rintro e u1 ⟨rfl, hB1⟩
              have hk1 : Kept wr u1 := (Kept.drew wr).trans (Kept.below hB1)
              refine ⟨rfl, hk1.cell ct, ?_⟩
              have hw := written_any (TL.kt hT (Kt.of_kept (ad := []) (HJ.out.kept.trans hk1)) (S := fun _ => False) (fun _ z => z.elim))
              rw [hdx] at hw
              refine hw.mono ?_
              rintro e u2 ⟨rfl, hB2⟩
              have := HJ.out.step (hk1.trans (Kept.below hB2)) hab ha hb HLN.out.1 (by simpa using HLN.out.2.1) hjl
              simp only [List.getElem_map] at this
              exact ⟨rfl, this⟩
            have ct' : wr.drew.cell? ⟨tb, j, none⟩ = some (.pointer (some ⟨bs[j], 0, none⟩)) := ct
            clear hng hT hdx HJ HI HKT HNN HLN HBL HLS HOK HNZ HGA HK HR HB0 HK0 HSX HNE HOL hnz
            generalize names[j] = n at *
            generalize bs[j] = bj at *
            generalize canT tys[j] = tx at *
            go_wp2_with fail
            go_region_with (first | (go_at_call 89; refine Calls.mono HC.out ?_; rintro e u1 ⟨rfl, d1, HD⟩; clear HC) | (go_at_call 56; refine Calls.mono HD.out ?_; rintro e u2 ⟨rfl, e1, e2, e3, e4, HE⟩; clear HD))
            all_goals
              generalize (u2.setCell ⟨a, j, none⟩ (.string n)).setCell ⟨b, j, none⟩ (.string tx) = Z at *
              go_wp2
              go_roundw
              case measure => simp [intOf]; omega
              case rel => exact ⟨j + 1, hjl, by go_num, HE⟩
          · have hje : j = ts.length := by omega
            have hsa : SRw wr a names := by
              have := HJ.out.fa
              rw [List.take_of_length_le (by rw [HLN.out.1]; omega), ← HLN.out.1] at this
              exact this.srw
            have hsb : SRw wr b (tys.map canT) := by
              have := HJ.out.fb
              have hl2 : (tys.map canT).length = ts.length := by simpa using HLN.out.2.1
              rw [List.take_of_length_le (by rw [hl2]; omega), ← hl2] at this
              exact this.srw
            have hkt : Kt ad (fun _ => False) w wr := HKT.out.trans (Kt.of_kept HJ.out.kept)
            have hwa : w.heap.size ≤ a := Nat.le_trans HKT.out.size ha
            have hwb : w.heap.size ≤ b := Nat.le_trans HKT.out.size hb
            have hWK : WKP (fun q => q ≠ a ∧ q ≠ b) B wb ob sb stop wr o := (HK.out.mono (fun q hq _ => ⟨by omega, by omega⟩)).kt hkt
            have HWT : Hid _ := wat_sx (mb := mb) (fb := fb) (rd := rd) (Nat.le_trans HGA.out.sz hkt.size) hWK hab hsa hsb HNE.out (by rw [List.length_map, HLN.out.2.1, HLN.out.1]) (by rw [HLN.out.1]; exact HLN.out.2.2) HOL.out hst
            rw [HLN.out.1] at HWT
            have hby := HJ.out.kept.blk (HLS.out.kt.blk w.heap.size _ HB0.out id (by
              rintro ⟨cs', e, f, he, hh⟩
              simp only [Obj.cells.injEq] at he
              obtain ⟨_, rfl, _⟩ := he
              rcases hh with e | e | e | e <;> cases e))
            have cb : wr.cell? ⟨w.heap.size, 1, none⟩ = some (.func (.func 28) #[] #[.pointer (some ⟨wb, 0, none⟩), .pointer (some ⟨ob, 0, none⟩), .pointer (some ⟨mb, 0, none⟩), .pointer (some ⟨fb, 0, none⟩), .pointer (some ⟨sb, 0, none⟩)]) := cell_of hby rfl
            have hsx : SX wr ad σ := HLS.out.sx.kept HJ.out.kept
            have HFIN : Hid (∀ w', Kdw B (fun q => q = a ∨ q = b) wr w' → SX w' ad σ ∧ Kw B ad w w' ∧ GA A B ad w') := fun w' hk => by
              have hkw : Kw B ad w w' := ⟨hk.os.trans hkt.os, hk.output.trans hkt.output, Nat.le_trans hkt.size hk.size, fun q o hq h1 h2 => hk.blk q o (hkt.blk0 q o hq id h2) (by have := lt_of_block hq; rintro (z | z) <;> omega) h1⟩
              refine ⟨hsx.keep (fun q o hq ho => hk.blk q o ho ?_ ?_), hkw, (Gk.ofKw hkw).ga HGA.out⟩
              · obtain ⟨τ, hτ, _⟩ := hsx
                obtain ⟨o', h1, h2⟩ := hτ.tb hq
                rintro (z | z)
                · obtain ⟨cs, s1, _⟩ := hsa
                  rw [z, s1] at h1
                  simp only [Option.some.injEq] at h1
                  subst h1
                  obtain ⟨cs', e, f, he, hh⟩ := h2
                  simp only [Obj.cells.injEq] at he
                  obtain ⟨_, rfl, _⟩ := he
                  rcases hh with e | e | e | e <;> cases e
                · obtain ⟨cs, s1, _⟩ := hsb
                  rw [z, s1] at h1
                  simp only [Option.some.injEq] at h1
                  subst h1
                  obtain ⟨cs', e, f, he, hh⟩ := h2
                  simp only [Obj.cells.injEq] at he
                  obtain ⟨_, rfl, _⟩ := he
                  rcases hh with e | e | e | e <;> cases e
              · obtain ⟨τ, hτ, _⟩ := hsx
                obtain ⟨o', h1, cs', e, f, rfl, hh⟩ := hτ.tb hq
                rw [ho] at h1
                simp only [Option.some.injEq] at h1
                subst h1
                rintro ⟨cs2, e2, f2, he, h3⟩
                simp only [Obj.cells.injEq] at he
                obtain ⟨_, rfl, _⟩ := he
                rcases hh with e | e | e | e <;> subst e <;> rcases h3 with e | e <;> cases e
            clear hsa hsb hkt hwa hwb hWK hby hsx HI HJ HKT HLS HBL HNN HLN HOK HNZ HGA HK HB0 HK0 HSX HNE HOL
            go_wp2_with fail
            refine Calls.mono HWT.out ?_
            rintro e w3 ⟨rfl, hW3, hK3⟩
            obtain ⟨hS3, hk3, hG3⟩ := HFIN.out w3 hK3
            have cg := hG3.glb.c6
            have hr := HR.out
            by_cases hq : o.length + 1 = stop
            · rw [if_pos hq] at hr
              subst hr
              have hd : decide (¬ (o.length + 1 = stop)) = false := by simp [hq]
              rw [hd]
              go_wp2_with fail
              refine Calls.mono (prefuse_es (A 6) w3) ?_
              rintro e w4 ⟨rfl, hww⟩
              rw [hww]
              go_wp2
              exact ⟨rfl, rfl, hW3, hk3⟩
            · rw [if_neg hq] at hr
              subst hr
              have hd : decide (¬ (o.length + 1 = stop)) = true := by simp [hq]
              rw [hd]
              go_wp2
              exact bodyPost_end (results_none Tryz.results182 _ _ _) rfl ⟨rfl, hS3, hW3, hk3⟩
    · cases h
  · cases h
end Go.Proofs.YtleenphlgbklmabGreatDoor

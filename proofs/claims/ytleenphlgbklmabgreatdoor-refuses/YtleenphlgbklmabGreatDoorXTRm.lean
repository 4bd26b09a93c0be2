import Derived.Test.YtleenphlgbklmabGreatDoorXTBn
import Derived.Sort.Walk0
set_option linter.unusedVariables false
set_option linter.unusedSimpArgs false
namespace Go.Proofs.YtleenphlgbklmabGreatDoor
open Go.RowKit
open Go.Sort

section
variable {A : Nat → Addr} {s z : ByteArray} {w : World}
theorem plinst_bad1 {what loc : Int} (hG : Glb A w) (h1 : ∀ W, Glb A W → Calls Tryz.prog 35 #[.string s] W (TOut A (.bad what loc) W)) : Calls Tryz.prog 9 #[.string s, .string z] w fun e w' => e = .returned (.tuple #[.slice none 0 0, .slice none 0 0, .bool true, faultVal what loc { data := #[] }]) ∧ Kept w w' := by
  have hk0 : Kept w (w.alloc (.cells #[.int .i64 0, .int .i64 0, .string { data := #[] }, .int .i64 0, .int .i64 0] 23)) := Kept.alloc _ _
  have h2 := inst_err s z _ (fun T u w' => Kept (w.alloc (.cells #[.int .i64 0, .int .i64 0, .string { data := #[] }, .int .i64 0, .int .i64 0] 23)) w' ∧ ∀ w2, Kept w' w2 → Calls Tryz.prog 22 #[.iface T u] w2 fun e w'' => e = .returned (faultVal what loc { data := #[] }) ∧ Kept w2 w'') ((h1 _ (hG.kept hk0)).mono (fun e w' h => by
    obtain ⟨hk, T, u, e1, e2⟩ := h
    exact ⟨T, u, e1, hk, e2⟩))
  refine (pl_inst_err s z w (fun a b => a = what ∧ b = loc) (h2.mono (fun e w' h => ?_))).mono ?_
  · obtain ⟨T, u, e1, hR⟩ := h
    exact ⟨T, u, what, loc, e1, hR.out.1, hR.out.2, rfl, rfl⟩
  · rintro e w' ⟨a, b, e1, ⟨rfl, rfl⟩, hk⟩
    exact ⟨e1, hk⟩
theorem plinst_bad2 {t : Ty} {names : List ByteArray} {what loc : Int} (hG : Glb A w) (h1 : ∀ W, Glb A W → Calls Tryz.prog 35 #[.string s] W (TOut A (.good t names) W)) (h2 : ∀ W, Glb A W → Calls Tryz.prog 35 #[.string z] W (TOut A (.bad what loc) W)) : Calls Tryz.prog 9 #[.string s, .string z] w fun e w' => e = .returned (.tuple #[.slice none 0 0, .slice none 0 0, .bool true, faultVal what loc { data := #[] }]) ∧ Kept w w' := by
  have hk0 : Kept w (w.alloc (.cells #[.int .i64 0, .int .i64 0, .string { data := #[] }, .int .i64 0, .int .i64 0] 23)) := Kept.alloc _ _
  have h3 := inst_err2 s z _ (fun w1 => Kept (w.alloc (.cells #[.int .i64 0, .int .i64 0, .string { data := #[] }, .int .i64 0, .int .i64 0] 23)) w1) (fun T u w' => Kept (w.alloc (.cells #[.int .i64 0, .int .i64 0, .string { data := #[] }, .int .i64 0, .int .i64 0] 23)) w' ∧ ∀ w2, Kept w' w2 → Calls Tryz.prog 22 #[.iface T u] w2 fun e w'' => e = .returned (faultVal what loc { data := #[] }) ∧ Kept w2 w'') ((h1 _ (hG.kept hk0)).mono (fun e w' h => by
    obtain ⟨hk, T, u, vb, e1, _⟩ := h
    exact ⟨T, u, e1, hk⟩)) (fun w1 hq => (h2 w1 ((hG.kept hk0).kept hq.out)).mono (fun e w' h => by
    obtain ⟨hk, T, u, e1, e2⟩ := h
    exact ⟨T, u, e1, hq.out.trans hk, e2⟩))
  refine (pl_inst_err s z w (fun a b => a = what ∧ b = loc) (h3.mono (fun e w' h => ?_))).mono ?_
  · obtain ⟨T, u, e1, hR⟩ := h
    exact ⟨T, u, what, loc, e1, hR.out.1, hR.out.2, rfl, rfl⟩
  · rintro e w' ⟨a, b, e1, ⟨rfl, rfl⟩, hk⟩
    exact ⟨e1, hk⟩
/-- behind both readings: where the two types lie. -/
def Two (w0 : World) (tg ts : Ty) (names own : List ByteArray) (v x : Value) (w : World) : Prop := Kept w0 w ∧ ∃ vg vs lo hi lo2 hi2, PTyR w vg lo hi tg v ∧ NB w vg names ∧ PTyR w vs lo2 hi2 ts x ∧ NB w vs own ∧ vs.Nodup
theorem two_read {tg ts : Ty} {names own : List ByteArray} {w0 : World} (hG : Glb A w0) (h1 : ∀ W, Glb A W → Calls Tryz.prog 35 #[.string s] W (TOut A (.good tg names) W)) (h2 : ∀ W, Glb A W → Calls Tryz.prog 35 #[.string z] W (TOut A (.good ts own) W)) :
    Hid (Calls Tryz.prog 35 #[.string s] w0 fun e w' => ∃ T u, e = .returned (.tuple #[.iface T u, .nilIface]) ∧ Hid ((fun v w1 => Kept w0 w1 ∧ ∃ vg lo hi, PTyR w1 vg lo hi tg v ∧ NB w1 vg names) (.iface T u) w')) ∧
    Hid (∀ w1 v, Hid ((fun v w1 => Kept w0 w1 ∧ ∃ vg lo hi, PTyR w1 vg lo hi tg v ∧ NB w1 vg names) v w1) → Calls Tryz.prog 35 #[.string z] w1 fun e w' => ∃ T u, e = .returned (.tuple #[.iface T u, .nilIface]) ∧ Hid (Two w0 tg ts names own v (.iface T u) w')) := by
  refine ⟨(h1 w0 hG).mono (fun e w' h => ?_), fun w1 v hq => ?_⟩
  · obtain ⟨hk, T, u, vb, e1, e2, e3, e4⟩ := h
    exact ⟨T, u, e1, hk, vb, _, _, e2, e4⟩
  · obtain ⟨hk1, vg, lo, hi, q1, q2⟩ := hq.out
    refine (h2 w1 (hG.kept hk1)).mono (fun e w' h => ?_)
    obtain ⟨hk, T, u, vb, e1, e2, e3, e4⟩ := h
    exact ⟨T, u, e1, hk1.trans hk, vg, vb, lo, hi, _, _, q1.keep (PKeep.kept hk), ⟨q2.1, fun j hj => hk.blk (q2.2 j hj)⟩, e2, e4, e3⟩
theorem two_match {tg ts : Ty} {names own : List ByteArray} {w0 : World} (g1 : (RdO.good tg names).ok) (g2 : (RdO.good ts own).ok) (w2 : World) (v x : Value) (h : Two w0 tg ts names own v x w2) :
    Calls Tryz.prog 41 #[.map (some w2.heap.size), v, x] (w2.alloc (.map #[] 0)) fun e w' => ∃ kv', e = .returned (.bool (matM tg ts (List.replicate names.length none)).2) ∧ SM w' w2.heap.size kv' ∧ ((matM tg ts (List.replicate names.length none)).2 = true → MG names own kv' (matM tg ts (List.replicate names.length none)).1) ∧ Kept w0 w' := by
  obtain ⟨hk, vg, vs, lo, hi, lo2, hi2, q1, q2, q3, q4, q5⟩ := h
  obtain ⟨a1, a2, a3, a4, a5, a6⟩ := g1
  obtain ⟨b1, b2, b3, b4, b5, b6⟩ := g2
  have hka : Kept w2 (w2.alloc (.map #[] 0)) := Kept.alloc _ _
  have hsm : SM (w2.alloc (.map #[] 0)) w2.heap.size [] := ⟨by have := heap_alloc_new w2 (.map #[] 0); simpa [tEs] using this, by simp⟩
  have hmg : MG names own [] (List.replicate names.length none) := ⟨by simp, (fun n t hn => by
    have : (List.replicate names.length (none : Option Ty)).getD n none = none := by
      simp only [List.getD, List.getElem?_replicate]
      split <;> rfl
    rw [this] at hn
    cases hn), (fun n hn _ => rfl), (fun y hy => by simp at hy)⟩
  have hC : MC names own := ⟨a3.nd, fun n hn => by have := (a4 n hn).2; omega, b3, fun n hn => ⟨(b4 n hn).1, by have := (b4 n hn).2; omega⟩⟩
  refine (mt_all names own hC a2 (w2.alloc (.map #[] 0)) w2.heap.size vg vs [] _ lo hi lo2 hi2 ts v x ⟨⟨q2.1, fun j hj => hka.blk (q2.2 j hj)⟩, ⟨q4.1, fun j hj => hka.blk (q4.2 j hj)⟩, q5, hsm, hmg⟩ (q1.keep (PKeep.kept hka)) (q3.keep (PKeep.kept hka)) b1).mono ?_
  rintro e w' ⟨kv', e1, e2, e3, e4⟩
  refine ⟨kv', e1, e2, e3, hk.trans ⟨e4.os, e4.output, by have := e4.size; simp at this; omega, fun q hq => ?_⟩⟩
  rw [e4.block q (by simp; omega) (fun z => by have z : q = w2.heap.size := z; omega)]
  exact Below.heap_alloc _ _ _ hq
theorem plinst_no {tg ts : Ty} {names own : List ByteArray} (hG : Glb A w) (h1 : ∀ W, Glb A W → Calls Tryz.prog 35 #[.string s] W (TOut A (.good tg names) W)) (h2 : ∀ W, Glb A W → Calls Tryz.prog 35 #[.string z] W (TOut A (.good ts own) W)) (g1 : (RdO.good tg names).ok) (g2 : (RdO.good ts own).ok) (hM : (matM tg ts (List.replicate names.length none)).2 = false) :
    Calls Tryz.prog 9 #[.string s, .string z] w fun e w' => e = .returned (.tuple #[.slice none 0 0, .slice none 0 0, .bool true, faultVal 11 0 { data := #[] }]) ∧ Kept w w' := by
  have hk0 : Kept w (w.alloc (.cells #[.int .i64 0, .int .i64 0, .string { data := #[] }, .int .i64 0, .int .i64 0] 23)) := Kept.alloc _ _
  generalize hW : w.alloc (.cells #[.int .i64 0, .int .i64 0, .string { data := #[] }, .int .i64 0, .int .i64 0] 23) = W at *
  have hG0 := hG.kept hk0
  obtain ⟨r1, r2⟩ := two_read (w0 := W) hG0 h1 h2
  have h3 := inst_no s z W _ _ (fun w' => Kept W w') (A 7) r1 r2 (fun w2 v x hq => (two_match g1 g2 w2 v x hq.out).mono (fun e w' h => by
    obtain ⟨kv', e1, _, _, e4⟩ := h
    rw [hM] at e1
    exact ⟨e1, e4, (hG0.kept e4).c7⟩))
  have h4 := pl_inst_err s z w (fun a b => a = 11 ∧ b = 0)
  rw [hW] at h4
  refine (h4 (h3.mono (fun e w' h => ?_))).mono ?_
  · obtain ⟨e1, w3, rfl, hR⟩ := h
    refine ⟨_, _, 11, 0, e1, hR.out.drw, fun w2 hk2 => ?_, rfl, rfl⟩
    exact fault_sen w2 ((hG0.kept hR.out.drw).kept hk2) 7 (by omega)
  · rintro e w' ⟨a, b, e1, ⟨rfl, rfl⟩, hk⟩
    exact ⟨e1, hk⟩
theorem plinst_yes {tg ts : Ty} {names own : List ByteArray} (hG : Glb A w) (h1 : ∀ W, Glb A W → Calls Tryz.prog 35 #[.string s] W (TOut A (.good tg names) W)) (h2 : ∀ W, Glb A W → Calls Tryz.prog 35 #[.string z] W (TOut A (.good ts own) W)) (g1 : (RdO.good tg names).ok) (g2 : (RdO.good ts own).ok) (hM : (matM tg ts (List.replicate names.length none)).2 = true) :
    Calls Tryz.prog 9 #[.string s, .string z] w fun e w' => ∃ (a b : Value) (kv : List (ByteArray × ByteArray)) (sk : List (List UInt8)), e = .returned (.tuple #[a, b, .bool false, faultVal 0 0 { data := #[] }]) ∧ MG names own kv (matM tg ts (List.replicate names.length none)).1 ∧ (kv.map Prod.fst).Nodup ∧ sk.Perm (kv.map fun y => y.1.data.toList) ∧ sk.Pairwise (fun x y => decide (x ≤ y) = true) ∧ w'.ownsRow 0 9 1 a sk.length (sk.map encStr) ∧ w'.ownsRow 0 9 1 b sk.length (sk.map (keyV kv)) ∧ Kept w w' := by
  have hk0 : Kept w (w.alloc (.cells #[.int .i64 0, .int .i64 0, .string { data := #[] }, .int .i64 0, .int .i64 0] 23)) := Kept.alloc _ _
  generalize hW : w.alloc (.cells #[.int .i64 0, .int .i64 0, .string { data := #[] }, .int .i64 0, .int .i64 0] 23) = W at *
  have hG0 := hG.kept hk0
  obtain ⟨r1, r2⟩ := two_read (w0 := W) hG0 h1 h2
  have h3 := inst_yes s z W _ _ (fun mb w' => Kept W w' ∧ ∃ kv, SM w' mb kv ∧ MG names own kv (matM tg ts (List.replicate names.length none)).1) r1 r2 (fun w2 v x hq => (two_match g1 g2 w2 v x hq.out).mono (fun e w' h => by
    obtain ⟨kv', e1, e2, e3, e4⟩ := h
    rw [hM] at e1
    exact ⟨e1, e4, kv', e2, e3 hM⟩))
  have h4 := pl_inst_ok s z w (fun kv => MG names own kv (matM tg ts (List.replicate names.length none)).1 ∧ (kv.map Prod.fst).Nodup)
  rw [hW] at h4
  refine (h4 (h3.mono (fun e w' h => ?_))).mono ?_
  · obtain ⟨mb, e1, hR⟩ := h
    obtain ⟨hk, kv, hS, hMG⟩ := hR.out
    have hkey : ∀ y, y ∈ kv → y.1 ∈ names := fun y hy => by
      obtain ⟨n, hn, e2, _⟩ := hMG.key y hy
      rw [e2]
      simp [List.getD, hn]
    have hlen : kv.length ≤ names.length := by
      have := nodup_len (kv.map Prod.fst) names hS.nd (fun x hx => by
        obtain ⟨y, hy, rfl⟩ := List.mem_map.1 hx
        exact hkey y hy)
      simpa using this
    refine ⟨mb, kv, e1, hk, hS, ⟨hMG, hS.nd⟩, by have := g1.2.2.2.2.2; omega, fun y hy => ?_⟩
    have := (g1.2.2.2.1 _ (hkey y hy)).2
    unfold maxLen
    omega
  · rintro e w' ⟨a, b, kv, sk, e1, e2, _, e3, e4, e5, e6, e7⟩
    exact ⟨a, b, kv, sk, e1, e2.1, e2.2, e3, e4, e5, e6, e7⟩
end
end Go.Proofs.YtleenphlgbklmabGreatDoor

namespace Go.Proofs.YtleenphlgbklmabGreatDoor
open Go.RowKit

/-- a row of strings, by a function of the number. -/
def SRow (w : World) (ao : Option Addr) (n : Nat) (f : Nat → ByteArray) : Prop := ∃ g, ∀ q, q < n → ao = some ⟨g, 0, none⟩ ∧ w.cell? ⟨g, q, none⟩ = some (.string (f q))
theorem srow_of {w : World} {B : Nat} {v : Value} {n : Nat} {vs : List Value} {f : Nat → ByteArray} (h : w.ownsRow B 9 1 v n vs) (hv : ∀ q, q < n → vs[q]? = some (.string (f q))) : ∃ ao cap, v = .slice ao n cap ∧ SRow w ao n f := by
  rcases h.2 with ⟨rfl, q⟩ | ⟨g, cap, cur, rfl, _, hg, _⟩
  · subst q
    exact ⟨none, 0, rfl, 0, fun q hq => by omega⟩
  · refine ⟨_, _, rfl, g, fun q hq => ⟨rfl, ?_⟩⟩
    have h1 := World.ownsRow.cells h (g := g) rfl q (.string (f q)) (hv q hq)
    have e3 : ((⟨g, 0, none⟩ : Addr).add q) = ⟨g, q, none⟩ := by unfold Addr.add; split <;> simp_all
    rw [e3] at h1
    exact h1

end Go.Proofs.YtleenphlgbklmabGreatDoor

namespace Go.Proofs.YtleenphlgbklmabGreatDoor
open Go.RowKit

def InP (n1 : Nat) (ks tx nm sh : Nat → ByteArray) : Prop := (∀ k q, k < n1 → q < n1 → ks q = nm k → tx q = sh k) ∧ (∀ q, q + 1 < n1 → Op.bytesLess (ks q).toList (ks (q + 1)).toList = true) ∧ (∀ k, k < n1 → ∃ q, q < n1 ∧ ks q = nm k)
end Go.Proofs.YtleenphlgbklmabGreatDoor

namespace Go.Proofs.YtleenphlgbklmabGreatDoor
open Go.RowKit

/-- the pure side: the sorted names and their texts. -/
theorem ins_pure {names own : List ByteArray} {kv : List (ByteArray × ByteArray)} {gs : List (Option Ty)} {sk : List (List UInt8)} (hnd : names.Nodup) (hM : MG names own kv gs) (hk : (kv.map Prod.fst).Nodup) (hall : ∀ i, i < names.length → gs.getD i none ≠ none) (hp : sk.Perm (kv.map fun y => y.1.data.toList)) (hs : sk.Pairwise (fun x y => decide (x ≤ y) = true)) :
    sk.length = names.length ∧ InP names.length (fun q => ⟨(sk.getD q []).toArray⟩) (fun q => keyT kv (sk.getD q [])) (fun k => names.getD k { data := #[] }) (fun k => match gs.getD k none with | some t => shT own t | none => { data := #[] }) := by
  have hin : ∀ n, n < names.length → names.getD n { data := #[] } ∈ kv.map Prod.fst := fun n hn => by
    obtain ⟨t, ht⟩ := Option.ne_none_iff_exists'.1 (hall n hn)
    obtain ⟨j, hj, _⟩ := hM.got n t ht
    obtain ⟨h1, h2, _⟩ := List.findIdx?_eq_some_iff_getElem.1 hj
    have e := (sameS_iff _ _).1 h2
    rw [← e]
    exact List.mem_map.2 ⟨_, List.getElem_mem h1, rfl⟩
  have hlen : kv.length = names.length := by
    have h1 := nodup_len (kv.map Prod.fst) names hk (fun x hx => by
      obtain ⟨y, hy, rfl⟩ := List.mem_map.1 hx
      obtain ⟨n, hn, e, _⟩ := hM.key y hy
      rw [e]
      simp [List.getD, hn])
    have h2 := nodup_len names (kv.map Prod.fst) hnd (fun x hx => by
      obtain ⟨i, hi, rfl⟩ := List.mem_iff_getElem.1 hx
      have := hin i hi
      simpa [List.getD, hi] using this)
    simp at h1 h2
    omega
  have hsl : sk.length = names.length := by rw [hp.length_eq]; simpa using hlen
  have hsn : sk.Nodup := by
    rw [hp.nodup_iff]
    have e : (kv.map fun y => y.1.data.toList) = (kv.map Prod.fst).map (fun (b : ByteArray) => b.data.toList) := by simp
    rw [e]
    exact List.Pairwise.map _ (fun a b hab e => hab ((sameS_iff a b).1 (by simp [sameS, e]))) hk
  refine ⟨hsl, fun k q hk hq e => ?_, fun q hq => ?_, fun k hk => ?_⟩
  · obtain ⟨t, ht⟩ := Option.ne_none_iff_exists'.1 (hall k hk)
    obtain ⟨j, hj, h2, _⟩ := hM.got k t ht
    simp only at e ⊢
    rw [ht]
    simp only
    unfold keyT
    rw [e, hj]
    exact h2
  · have h1 : q < sk.length := by omega
    have h2 : q + 1 < sk.length := by omega
    have hle := (List.pairwise_iff_getElem.1 hs) q (q + 1) h1 h2 (by omega)
    have hne := (List.pairwise_iff_getElem.1 hsn) q (q + 1) h1 h2 (by omega)
    simp only [decide_eq_true_eq] at hle
    rw [bytesLess_eq, Lib.toList_data, Lib.toList_data]
    simp only [List.getD, List.getElem?_eq_getElem h1, List.getElem?_eq_getElem h2, Option.getD_some, decide_eq_true_eq]
    rcases List.le_iff_lt_or_eq.1 hle with h | h
    · exact h
    · exact absurd h hne
  · have h1 := hin k hk
    obtain ⟨y, hy, e⟩ := List.mem_map.1 h1
    have h2 : y.1.data.toList ∈ sk := hp.mem_iff.2 (List.mem_map.2 ⟨y, hy, rfl⟩)
    obtain ⟨q, hq, e2⟩ := List.mem_iff_getElem.1 h2
    refine ⟨q, by omega, ?_⟩
    simp only [← e]
    simp only [List.getD, List.getElem?_eq_getElem hq, Option.getD_some, e2]
end Go.Proofs.YtleenphlgbklmabGreatDoor

namespace Go.Proofs.YtleenphlgbklmabGreatDoor
open Go.RowKit

/-- what is known of Canon and Instance. -/
structure RnH (w : World) (cn : ByteArray → ByteArray) (fw fl : ByteArray → Int) (nl : ByteArray → ByteArray → Nat) (nn : ByteArray → ByteArray → Bool) (iw il : ByteArray → ByteArray → Int) (RI : ByteArray → ByteArray → Option Addr → Option Addr → World → Prop) : Prop where
  c : ∀ s W, s.size ≤ 9223372036854775807 → Kept w W → Calls Tryz.prog 8 #[.string s] W fun e w' => e = .returned (.tuple #[.string (cn s), faultVal (fw s) (fl s) { data := #[] }]) ∧ Kept W w'
  i : ∀ s z W, s.size ≤ 9223372036854775807 → z.size ≤ 9223372036854775807 → Kept w W → Calls Tryz.prog 9 #[.string s, .string z] W fun e w' => ∃ la lc ta tc, e = .returned (.tuple #[.slice la (nl s z) lc, .slice ta (nl s z) tc, .bool (nn s z), faultVal (iw s z) (il s z) { data := #[] }]) ∧ Kept W w' ∧ Hid (RI s z la ta w')
section
variable {w : World} {cn : ByteArray → ByteArray} {fw fl : ByteArray → Int} {nl : ByteArray → ByteArray → Nat} {nn : ByteArray → ByteArray → Bool} {iw il : ByteArray → ByteArray → Int} {RI : ByteArray → ByteArray → Option Addr → Option Addr → World → Prop}
end
end Go.Proofs.YtleenphlgbklmabGreatDoor

namespace Go.Proofs.YtleenphlgbklmabGreatDoor
open Go.RowKit

def cnO : RdO → ByteArray
  | .bad _ _ => { data := #[] }
  | .good t _ => canT t
def fwO : RdO → Int
  | .bad what _ => what
  | .good _ _ => 0
def flO : RdO → Int
  | .bad _ loc => loc
  | .good _ _ => 0
/-- what Instance answers: how many, whether none, what is wrong and where. -/
def insO : RdO → RdO → Nat × Bool × Int × Int
  | .bad what loc, _ => (0, true, what, loc)
  | .good _ _, .bad what loc => (0, true, what, loc)
  | .good tg names, .good ts _ => if (matM tg ts (List.replicate names.length none)).2 then (names.length, false, 0, 0) else (0, true, 11, 0)
def RIO : RdO → RdO → Option Addr → Option Addr → World → Prop
  | .good tg names, .good ts own, la, ta, w => (matM tg ts (List.replicate names.length none)).2 = true → ∃ ks tx, SRow w la names.length ks ∧ SRow w ta names.length tx ∧ InP names.length ks tx (fun k => names.getD k { data := #[] }) (fun k => match (matM tg ts (List.replicate names.length none)).1.getD k none with | some t => shT own t | none => { data := #[] })
  | _, _, _, _, _ => True
theorem rn_all {A : Nat → Addr} (w : World) (hG : Glb A w) : RnH w (fun s => cnO (rdO s)) (fun s => fwO (rdO s)) (fun s => flO (rdO s)) (fun s z => (insO (rdO s) (rdO z)).1) (fun s z => (insO (rdO s) (rdO z)).2.1) (fun s z => (insO (rdO s) (rdO z)).2.2.1) (fun s z => (insO (rdO s) (rdO z)).2.2.2) (fun s z => RIO (rdO s) (rdO z)) := by
  refine ⟨fun s W hs hk => (plcanon_rd s W (hG.kept hk) hs).mono (fun e w' h => ⟨?_, h.2⟩), fun s z W hs hz hk => ?_⟩
  · rw [h.1]
    cases rdO s <;> rfl
  · obtain ⟨p1, k1⟩ := rd_prog (A := A) s hs
    obtain ⟨p2, k2⟩ := rd_prog (A := A) z hz
    cases h1 : rdO s with
    | bad what loc =>
      rw [h1] at p1
      refine (plinst_bad1 (hG.kept hk) p1).mono ?_
      rintro e w' ⟨rfl, hk'⟩
      exact ⟨none, 0, none, 0, rfl, hk', trivial⟩
    | good tg names =>
      rw [h1] at p1 k1
      cases h2 : rdO z with
      | bad what loc =>
        rw [h2] at p2
        refine (plinst_bad2 (hG.kept hk) p1 p2).mono ?_
        rintro e w' ⟨rfl, hk'⟩
        exact ⟨none, 0, none, 0, rfl, hk', trivial⟩
      | good ts own =>
        rw [h2] at p2 k2
        cases hM : (matM tg ts (List.replicate names.length none)).2 with
        | false =>
          refine (plinst_no (hG.kept hk) p1 p2 k1 k2 hM).mono ?_
          rintro e w' ⟨rfl, hk'⟩
          refine ⟨none, 0, none, 0, ?_, hk', fun h => ?_⟩
          · simp only [insO, hM]
            rfl
          · rw [hM] at h
            cases h
        | true =>
          refine (plinst_yes (hG.kept hk) p1 p2 k1 k2 hM).mono ?_
          rintro e w' ⟨a, b, kv, sk, e1, e2, e3, e4, e5, e6, e7, e8⟩
          obtain ⟨a1, a2, a3, a4, a5, a6⟩ := k1
          obtain ⟨b1, b2, b3, b4, b5, b6⟩ := k2
          have hbound : ∀ i, i < names.length → (matM tg ts (List.replicate names.length none)).1.getD i none ≠ none := fun i hi => matM_occ a2 own.length ts b2 _ i hM (a5 i hi) (by simpa using hi)
          obtain ⟨hl, hP⟩ := ins_pure a3.nd e2 e3 hbound e4 e5
          rw [hl] at e6 e7
          obtain ⟨la, lc, rfl, r1⟩ := srow_of e6 (f := fun q => ⟨(sk.getD q []).toArray⟩) (fun q hq => by simp [List.getD, show q < sk.length from by omega, encStr])
          obtain ⟨ta, tc, rfl, r2⟩ := srow_of e7 (f := fun q => keyT kv (sk.getD q [])) (fun q hq => by simp [List.getD, show q < sk.length from by omega, keyV])
          refine ⟨la, lc, ta, tc, ?_, e8, fun _ => ⟨_, _, r1, r2, hP⟩⟩
          rw [e1]
          simp only [insO, hM]
          rfl
end Go.Proofs.YtleenphlgbklmabGreatDoor

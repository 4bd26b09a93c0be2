import Derived.Deep.LoopGhost
import Derived.Test.YtleenphlgbklmabGreatDoorZPRdD
import Derived.Test.YtleenphlgbklmabGreatDoorZTree
set_option linter.unusedVariables false
set_option linter.unusedSimpArgs false
namespace Go.Proofs.YtleenphlgbklmabGreatDoor
open Go.RowKit

set_option maxRecDepth 20000 in
set_option maxHeartbeats 1000000 in
theorem patoms_any {s : ByteArray} {L : List Tk} (hE : PEnv s wordsL L) (n : Nat) (hA : ∀ m, m ≤ n → SA s L m) (w : World) (rb k : Nat) (h : PAt w rb s L k) (x1 x : X) (K1 K2 : Nat) (B1 B2 : Int)
    (hX : atomM L n k (-1) = some (x1, K1, B1)) (hY : appM L n x1 K1 B1 = some (x, K2, B2)) :
    Calls Tryz.prog 111 #[.agg #[.pointer (some ⟨rb, 0, none⟩)]] w fun e w' => PRet (QX w x) w rb s L K2 B2 e w' := by
  have hk0 : Kp (fun _ => False) w (w.alloc (.cells #[.pointer (some ⟨rb, 0, none⟩)] 174)) := (Kp.refl _ _).alloc _
  have hc0 : (w.alloc (.cells #[.pointer (some ⟨rb, 0, none⟩)] 174)).heap[w.heap.size]? = some (.cells #[.pointer (some ⟨rb, 0, none⟩)] 174 (0, 0)) := heap_alloc_new _ _
  have h0 : PAt (w.alloc (.cells #[.pointer (some ⟨rb, 0, none⟩)] 174)) rb s L k := h.kp hk0
  have hrl := h.lt'
  generalize hw0 : w.alloc (.cells #[.pointer (some ⟨rb, 0, none⟩)] 174) = w0 at *
  have a0 : w0.cell? ⟨w.heap.size, 0, none⟩ = some (.pointer (some ⟨rb, 0, none⟩)) := by simp [World.cell?, hc0]
  have HB : Hid (PB L) := hE.pb
  have HA : Hid _ := hA
  have HC : Hid _ := hA n (Nat.le_refl _) _ _ _ _ _ _ h0 hX
  have HX : Hid _ := hX
  have HY : Hid _ := hY
  clear hA hX hY h
  go_enter Tryz.func111, Tryz.ntmps111
  go_wp2_with fail
  refine Calls.mono HC.out ?_
  intro e w1 hres
  clear HC
  by_cases hz : 0 ≤ bz L K1 B1
  · obtain ⟨b, he, hx⟩ := hres.2 hz
    rw [he]
    clear he hres
    go_wp2
    exact ⟨rfl, PRet.up (Kq.of_kp hk0 (fun _ z => z.elim)) hz (fun hz => (stk L n).ap _ _ _ _ _ _ HY.out hz) ⟨b, rfl, hx⟩⟩
  obtain ⟨hb, v, he, hv, P1, kq⟩ := hres.1 (by omega)
  clear hz hres
  have KK1 := (Kq.of_kp (S := (· = rb)) hk0 (fun _ z => z.elim)).trans kq
  have hc1 := (kq.block _ (lt_of_block hc0) (by show ¬ _; omega)).trans hc0
  have X1 : PX w1 (fun b => w.heap.size ≤ b) x1 v := hv.mono (fun b h1 _ => Nat.le_trans hk0.size h1)
  obtain ⟨T1, u1, rfl⟩ := hv.iface
  subst he
  subst hb
  have hm1 := (made L HB.out.sz n).a _ _ _ _ _ HX.out (by omega)
  clear hv HX
  go_wp2_with fail
  go_loopg [3] n (fun m v wr => ∃ (y : X) (Ky : Nat) (T : TypeId) (u : Value), v = .iface T u ∧ Hid (appM L m y Ky (-1) = some (x, K2, B2)) ∧ PX wr (fun b => w.heap.size ≤ b) y (.iface T u) ∧ PAt wr rb s L Ky ∧ Kq (· = rb) w wr ∧ wr.heap[w.heap.size]? = some (.cells #[.pointer (some ⟨rb, 0, none⟩)] 174 (0, 0)) ∧ tw y + 56 ≤ 400 * Ky ∧ m ≤ n)
  case atStart => exact ⟨x1, K1, T1, u1, rfl, HY, X1, P1, KK1, hc1, by omega, Nat.le_refl _⟩
  case round =>
    obtain ⟨y, Ky, T, u, rfl, HM, XY, PY, KY, hcy, hty, hmn⟩ := hrel
    clear X1 P1 KK1 hc1 HY hm1 kq
    have ay : wr.cell? ⟨w.heap.size, 0, none⟩ = some (.pointer (some ⟨rb, 0, none⟩)) := by simp [World.cell?, hcy]
    cases gk with
    | zero =>
      have := HM.out
      simp [appM] at this
    | succ m =>
    have HT : Hid _ := patatom hE PY
    cases hc : (isM L { data := #[110, 97, 109, 101] } Ky (-1) || isM L { data := #[110, 117, 109] } Ky (-1) || isM L { data := #[40] } Ky (-1))
    · have q := HM.out
      rw [appM, hc] at q
      simp only [Bool.false_eq_true, if_false, Option.some.injEq, Prod.mk.injEq] at q
      obtain ⟨rfl, rfl, rfl⟩ := q
      rw [hc] at HT
      clear HM hc
      go_wp2_with fail
      refine Calls.mono HT.out ?_
      rintro e w2 ⟨rfl, hk2⟩
      have FX : Hid (PRet (QX w y) w rb s L Ky (-1) (.returned (.iface T u)) w2) := PRet.ret (Q := QX w y) (XY.kp hk2) (PY.kp hk2) (KY.trans (Kq.of_kp hk2 (fun _ z => z.elim)))
      clear HT
      go_wp2
      go_ret
      exact FX.out
    · have q := HM.out
      rw [appM, hc] at q
      simp only [if_true] at q
      obtain ⟨⟨z, Kz, Bz⟩, q1, q2⟩ := Option.bind_eq_some_iff.1 q
      simp only at q2
      rw [hc] at HT
      have Q1 : Hid _ := q1
      have Q2 : Hid _ := q2
      clear HM hc q q1 q2
      go_wp2_with fail
      refine Calls.mono HT.out ?_
      rintro e w2 ⟨rfl, hk2⟩
      have P2 := PY.kp hk2
      have KK2 := KY.trans (Kq.of_kp (S := (· = rb)) hk2 (fun _ z => z.elim))
      have Y2 := XY.kp hk2
      have hc2 := hk2.blk hcy (fun z => z)
      have a2 : w2.cell? ⟨w.heap.size, 0, none⟩ = some (.pointer (some ⟨rb, 0, none⟩)) := by simp [World.cell?, hc2]
      have HC : Hid _ := HA.out m (by omega) _ _ _ _ _ _ P2 Q1.out
      clear HT
      go_wp2_with fail
      refine Calls.mono HC.out ?_
      intro e w3 hres
      clear HC
      by_cases hz : 0 ≤ bz L Kz Bz
      · obtain ⟨b, he, hx⟩ := hres.2 hz
        rw [he]
        clear he hres
        go_wp2
        exact ⟨rfl, PRet.up KK2 hz (fun hz => (stk L m).ap _ _ _ _ _ _ Q2.out hz) ⟨b, rfl, hx⟩⟩
      obtain ⟨hb, v, he, hv, P3, kq⟩ := hres.1 (by omega)
      clear hz hres
      have KK3 := KK2.trans kq
      have hc3 := (kq.block _ (lt_of_block hc2) (by show ¬ _; omega)).trans hc2
      have Z3 : PX w3 (fun b => w.heap.size ≤ b) z v := hv.mono (fun b h1 _ => Nat.le_trans KK2.size h1)
      obtain ⟨T4, u4, rfl⟩ := hv.iface
      have Y3 := Y2.kq (fun b h1 => by have h1 : w.heap.size ≤ b := h1; omega) kq
      subst he
      subst hb
      have hma := ((made L HB.out.sz m).a _ _ _ _ _ Q1.out (by omega)).2.2
      have hlen := HB.out.len
      have hl3 := P3.lt
      have hdy := dp_tw y
      have hdz := dp_tw z
      have HV : Hid _ := above2 Y3 Z3 (by omega) (by omega)
      have htn : tw (.mk { data := #[97, 112, 112] } [] [y, z] y.loc) + 56 ≤ 400 * Kz := by
        have e : tw (.mk { data := #[97, 112, 112] } [] [y, z] y.loc) = (tw y + 16 + (tw z + 16)) + 16 := by simp [tw, tws]
        rw [e]
        omega
      clear hv Y2 hdy hdz
      go_wp2_with fail
      refine Calls.mono HV.out ?_
      rintro e wfp ⟨rfl, hkf⟩
      have KF := KK3.trans (Kq.of_kp (S := (· = rb)) hkf (fun _ z => z.elim))
      have hkg : Kp (fun _ => False) wfp (wfp.alloc (.cells #[.int .i64 (((max (dp y) (dp z) : Nat) : Int) + 1), .iface T u, .iface T4 u4] 254)) := (Kp.refl _ _).alloc _
      have hbg : (wfp.alloc (.cells #[.int .i64 (((max (dp y) (dp z) : Nat) : Int) + 1), .iface T u, .iface T4 u4] 254)).heap[wfp.heap.size]? = some (.cells #[.int .i64 (((max (dp y) (dp z) : Nat) : Int) + 1), .iface T u, .iface T4 u4] 254 (0, 0)) := heap_alloc_new _ _
      have hcg := hkg.blk (hkf.blk hc3 (fun z => z)) (fun z => z)
      have XG : PX (wfp.alloc (.cells #[.int .i64 (((max (dp y) (dp z) : Nat) : Int) + 1), .iface T u, .iface T4 u4] 254)) (fun b => w.heap.size ≤ b) (.mk { data := #[97, 112, 112] } [] [y, z] y.loc) (.iface 252 (.pointer (some ⟨wfp.heap.size, 0, none⟩))) := PX.app _ _ _ _ _ _ KF.size hbg ((Y3.kp hkf).kp hkg) ((Z3.kp hkf).kp hkg)
      have PG := (P3.kp hkf).kp hkg
      have KG := KF.trans (Kq.of_kp (S := (· = rb)) hkg (fun _ z => z.elim))
      clear HV hkg hbg Z3 Y3
      go_wp2
      go_roundg m
      case measure => omega
      case rel => exact ⟨_, _, _, _, rfl, Q2, XG, PG, KG, hcg, htn, by omega⟩
end Go.Proofs.YtleenphlgbklmabGreatDoor

namespace Go.Proofs.YtleenphlgbklmabGreatDoor
open Go.RowKit

/-- within a let rec: the names and what they are, so far. -/
structure RecSt (w wr : World) (rb : Nat) (s : ByteArray) (L : List Tk) (names : List ByteArray) (kids : List X) (nv vv : Value) (ps : List Value) (K : Nat) : Prop where
  nm : wr.ownsRow w.heap.size 9 1 nv names.length (names.map Value.string)
  vl : wr.ownsRow w.heap.size 107 1 vv ps.length ps
  ln : ps.length = kids.length
  px : ∀ (j : Nat) (x : X) (p : Value), kids[j]? = some x → ps[j]? = some p → PX wr (fun b => w.heap.size ≤ b ∧ nv.ownBlock ≠ some b ∧ vv.ownBlock ≠ some b) x p
  at' : PAt wr rb s L K
  kq : Kq (· = rb) w wr
  rc : wr.heap[w.heap.size]? = some (.cells #[.pointer (some ⟨rb, 0, none⟩)] 174 (0, 0))
  wd : ∀ m, m ∈ names → Wd m
  rl : rb < w.heap.size
  db : dps kids ≤ 200000
theorem row_own {w : World} {B : Nat} {e : TypeId} {v : Value} {n : Nat} {xs : List Value} (h : w.ownsRow B e 1 v n xs) {g : Nat} (hg : v.ownBlock = some g) : B ≤ g ∧ g < w.heap.size ∧ ∃ cs f, w.heap[g]? = some (.cells cs e f) := by
  rcases h.2 with ⟨rfl, _⟩ | ⟨g', cap, cur, h1, h2, h3, h4⟩
  · cases hg
  · subst h1
    cases hg
    exact ⟨h2, lt_of_block h3, _, _, h3⟩
section
variable {w wr w' : World} {rb : Nat} {s : ByteArray} {L : List Tk} {names : List ByteArray} {kids : List X} {nv vv : Value} {ps : List Value} {K K' : Nat}
theorem RecSt.move (h : RecSt w wr rb s L names kids nv vv ps K) (k : Kq (· = rb) wr w') (p : PAt w' rb s L K') : RecSt w w' rb s L names kids nv vv ps K' := by
  have hb : ∀ b, w.heap.size ≤ b → b < wr.heap.size → w'.heap[b]? = wr.heap[b]? := fun b h1 h2 => k.block b h2 (fun z => by have z : b = rb := z; have := h.rl; omega)
  refine ⟨?_, ?_, h.ln, fun j x p h1 h2 => (h.px j x p h1 h2).keep (fun b hP hl => hb b hP.1 hl), p, h.kq.trans k, (hb _ (Nat.le_refl _) (lt_of_block h.rc)).trans h.rc, h.wd, h.rl, h.db⟩
  · exact row_same (P := fun b => w.heap.size ≤ b) (fun b h1 h2 => hb b h1 h2) (fun g hg => (row_own h.nm hg).1) h.nm
  · exact row_same (P := fun b => w.heap.size ≤ b) (fun b h1 h2 => hb b h1 h2) (fun g hg => (row_own h.vl hg).1) h.vl
theorem kinds_ne {e1 e2 : TypeId} {B : Nat} {v1 v2 : Value} {n1 n2 : Nat} {x1 x2 : List Value} (h1 : wr.ownsRow B e1 1 v1 n1 x1) (h2 : wr.ownsRow B e2 1 v2 n2 x2) (hne : e1 ≠ e2) {g : Nat} (hg : v1.ownBlock = some g) : v2.ownBlock ≠ some g := fun h => by
  obtain ⟨_, _, cs, f, a⟩ := row_own h1 hg
  obtain ⟨_, _, cs2, f2, b⟩ := row_own h2 h
  rw [a] at b
  simp only [Option.some.injEq, Obj.cells.injEq] at b
  exact hne b.2.1
/-- a name more. -/
theorem RecSt.name (h : RecSt w wr rb s L names kids nv vv ps K) (t : ByteArray) (ht : Wd t) (o : Obj) {g cap : Nat} (hown : w'.ownsRow w.heap.size 9 1 (.slice (some ⟨g, 0, none⟩) (names.length + 1) cap) (names.length + 1) (names.map Value.string ++ [.string t])) (hg : (wr.alloc o).grownBy w' nv.ownBlock) (hfr : some g = nv.ownBlock ∨ (wr.alloc o).heap.size ≤ g) :
    RecSt w w' rb s L (names ++ [t]) kids (.slice (some ⟨g, 0, none⟩) (names.length + 1) cap) vv ps K ∧ wr.heap.size ≤ w'.heap.size := by
  have hal : ∀ b, b < wr.heap.size → (wr.alloc o).heap[b]? = wr.heap[b]? := fun b hb => Below.heap_alloc _ _ _ hb
  have hb : ∀ b, b < wr.heap.size → nv.ownBlock ≠ some b → w'.heap[b]? = wr.heap[b]? := fun b h1 h2 => (hg.block b (by simp; omega) (fun z => h2 z.symm)).trans (hal b h1)
  have hrn : ∀ b, b < w.heap.size → nv.ownBlock ≠ some b := fun b hlt z => by have := (row_own h.nm z).1; omega
  have hsz : wr.heap.size ≤ w'.heap.size := Nat.le_trans (by simp) hg.size
  have hgn : ∀ b, b < wr.heap.size → nv.ownBlock ≠ some b → (Value.slice (some ⟨g, 0, none⟩) (names.length + 1) cap).ownBlock ≠ some b := fun b h1 h2 z => by
    have z : some g = some b := z
    cases z
    rcases hfr with e | e
    · exact h2 e.symm
    · simp at e; omega
  refine ⟨⟨by simpa using hown, ?_, h.ln, fun j x p h1 h2 => ?_, ?_, ?_, ?_, ?_, h.rl, h.db⟩, hsz⟩
  · exact row_same (P := fun b => nv.ownBlock ≠ some b) (fun b h1 h2 => hb b h2 h1) (fun g hg => kinds_ne h.vl h.nm (by decide) hg) h.vl
  · have q := (h.px j x p h1 h2).mono (Q := fun b => (w.heap.size ≤ b ∧ nv.ownBlock ≠ some b ∧ vv.ownBlock ≠ some b) ∧ (Value.slice (some ⟨g, 0, none⟩) (names.length + 1) cap).ownBlock ≠ some b) (fun b hP hl => ⟨hP, hgn b hl hP.2.1⟩)
    exact (q.keep (w' := w') (fun b hP hl => hb b hl hP.1.2.1)).mono (fun b hP _ => ⟨hP.1.1, hP.2, hP.1.2.2⟩)
  · obtain ⟨kd, e1, e2⟩ := h.at'.ex
    exact ⟨⟨kd, (hb rb (lt_of_block e1) (hrn rb h.rl)).trans e1, e2⟩, h.at'.lt, h.at'.nn⟩
  · exact ⟨hg.os.trans h.kq.os, hg.output.trans h.kq.output, Nat.le_trans h.kq.size hsz, fun b h1 h2 => (hb b (Nat.lt_of_lt_of_le h1 h.kq.size) (hrn b h1)).trans (h.kq.block b h1 h2)⟩
  · refine (hb _ (lt_of_block h.rc) (fun z => ?_)).trans h.rc
    obtain ⟨_, _, cs, f, a⟩ := row_own h.nm z
    rw [h.rc] at a
    simp only [Option.some.injEq, Obj.cells.injEq] at a
    exact absurd a.2.1 (by decide)
  · intro m hm
    rcases List.mem_append.1 hm with hm | hm
    · exact h.wd m hm
    · simp at hm; rw [hm]; exact ht
/-- what it is. -/
theorem RecSt.value (h : RecSt w wr rb s L names kids nv vv ps K) (x : X) (p : Value) (hx : PX wr (fun b => w.heap.size ≤ b ∧ nv.ownBlock ≠ some b ∧ vv.ownBlock ≠ some b) x p) (o : Obj) {g cap : Nat} (hown : w'.ownsRow w.heap.size 107 1 (.slice (some ⟨g, 0, none⟩) (ps.length + 1) cap) (ps.length + 1) (ps ++ [p])) (hg : (wr.alloc o).grownBy w' vv.ownBlock) (hfr : some g = vv.ownBlock ∨ (wr.alloc o).heap.size ≤ g) (hd : Go.Proofs.YtleenphlgbklmabGreatDoor.dp x ≤ 200000) :
    RecSt w w' rb s L names (kids ++ [x]) nv (.slice (some ⟨g, 0, none⟩) (ps.length + 1) cap) (ps ++ [p]) K ∧ wr.heap.size ≤ w'.heap.size := by
  have hal : ∀ b, b < wr.heap.size → (wr.alloc o).heap[b]? = wr.heap[b]? := fun b hb => Below.heap_alloc _ _ _ hb
  have hb : ∀ b, b < wr.heap.size → vv.ownBlock ≠ some b → w'.heap[b]? = wr.heap[b]? := fun b h1 h2 => (hg.block b (by simp; omega) (fun z => h2 z.symm)).trans (hal b h1)
  have hrn : ∀ b, b < w.heap.size → vv.ownBlock ≠ some b := fun b hlt z => by have := (row_own h.vl z).1; omega
  have hsz : wr.heap.size ≤ w'.heap.size := Nat.le_trans (by simp) hg.size
  have hgn : ∀ b, b < wr.heap.size → vv.ownBlock ≠ some b → (Value.slice (some ⟨g, 0, none⟩) (ps.length + 1) cap).ownBlock ≠ some b := fun b h1 h2 z => by
    have z : some g = some b := z
    cases z
    rcases hfr with e | e
    · exact h2 e.symm
    · simp at e; omega
  have mv : ∀ {y q}, PX wr (fun b => w.heap.size ≤ b ∧ nv.ownBlock ≠ some b ∧ vv.ownBlock ≠ some b) y q → PX w' (fun b => w.heap.size ≤ b ∧ nv.ownBlock ≠ some b ∧ (Value.slice (some ⟨g, 0, none⟩) (ps.length + 1) cap).ownBlock ≠ some b) y q := fun hp => by
    have q := hp.mono (Q := fun b => (w.heap.size ≤ b ∧ nv.ownBlock ≠ some b ∧ vv.ownBlock ≠ some b) ∧ (Value.slice (some ⟨g, 0, none⟩) (ps.length + 1) cap).ownBlock ≠ some b) (fun b hP hl => ⟨hP, hgn b hl hP.2.2⟩)
    exact (q.keep (w' := w') (fun b hP hl => hb b hl hP.1.2.2)).mono (fun b hP _ => ⟨hP.1.1, hP.1.2.1, hP.2⟩)
  refine ⟨⟨?_, by simpa using hown, by simp [h.ln], fun j y q h1 h2 => ?_, ?_, ?_, ?_, h.wd, h.rl, ?_⟩, hsz⟩
  · exact row_same (P := fun b => vv.ownBlock ≠ some b) (fun b h1 h2 => hb b h2 h1) (fun g hg => kinds_ne h.nm h.vl (by decide) hg) h.nm
  · by_cases hj : j < kids.length
    · rw [List.getElem?_append_left hj] at h1
      rw [List.getElem?_append_left (by rw [h.ln]; exact hj)] at h2
      exact mv (h.px j y q h1 h2)
    · rw [List.getElem?_append_right (by omega)] at h1
      rw [List.getElem?_append_right (by rw [h.ln]; omega)] at h2
      have e : j - kids.length = 0 := by
        have := (List.getElem?_eq_some_iff.1 h1).1
        simp at this
        omega
      rw [h.ln] at h2
      rw [e] at h1 h2
      simp at h1 h2
      subst h1
      subst h2
      exact mv hx
  · obtain ⟨kd, e1, e2⟩ := h.at'.ex
    exact ⟨⟨kd, (hb rb (lt_of_block e1) (hrn rb h.rl)).trans e1, e2⟩, h.at'.lt, h.at'.nn⟩
  · exact ⟨hg.os.trans h.kq.os, hg.output.trans h.kq.output, Nat.le_trans h.kq.size hsz, fun b h1 h2 => (hb b (Nat.lt_of_lt_of_le h1 h.kq.size) (hrn b h1)).trans (h.kq.block b h1 h2)⟩
  · refine (hb _ (lt_of_block h.rc) (fun z => ?_)).trans h.rc
    obtain ⟨_, _, cs, f, a⟩ := row_own h.vl z
    rw [h.rc] at a
    simp only [Option.some.injEq, Obj.cells.injEq] at a
    exact absurd a.2.1 (by decide)
  · rw [dps_append]
    have := h.db
    omega
end
end Go.Proofs.YtleenphlgbklmabGreatDoor

namespace Go.Proofs.YtleenphlgbklmabGreatDoor
open Go.RowKit

theorem Tryz.info107 : (Tryz.prog.info? 107).map (fun i => (i.zero, i.size, i.bytes)) = some (some .nilIface, 1, 16) := by kernel_rfl
theorem Tryz.bytesX : Tryz.t107.bytes = 16 := by kernel_rfl
theorem addr_add (g j : Nat) : (⟨g, 0, none⟩ : Addr).add j = ⟨g, j, none⟩ := by
  unfold Addr.add
  split <;> simp_all
theorem cut_app (n e t : Nat) (hn : n ≤ 100000) : n ≤ (Question.appendCap n 0 e).cut t ∧ (Question.appendCap n 0 e).cut t ≤ maxLen := by
  have h : (Question.appendCap n 0 e).cut t = n + t % (2 ^ 63 - n) := rfl
  have hlt := Nat.mod_lt t (show 0 < 2 ^ 63 - n by omega)
  rw [h]
  unfold maxLen
  omega
set_option maxRecDepth 20000 in
set_option maxHeartbeats 1000000 in
theorem pgrow_any (n : Nat) (w : World) (h0 : 0 < n) (hn : n ≤ 100000) : Calls Tryz.prog 185 #[.slice none 0 0, .int .i64 n] w fun e w' => ∃ cap, e = .returned (.slice (some ⟨w.heap.size, 0, none⟩) 0 cap) ∧ w'.ownsRow w.heap.size 107 1 (.slice (some ⟨w.heap.size, 0, none⟩) 0 cap) 0 [] ∧ Kp (fun _ => False) w w' := by
  obtain ⟨iX, hiX, hzX0, hzX1, hzX2⟩ := info_parts Tryz.info107
  have hby := Tryz.bytesX
  have hnc : Builtin.nextslicecap n 0 = n := by unfold Builtin.nextslicecap; rw [if_pos (by omega)]
  go_enter Tryz.func185, Tryz.ntmps185
  go_wp2_with fail
  · obtain ⟨c1, c2⟩ := cut_app n 107 (w.tape w.drawn (Question.appendCap n 0 107)) hn
    generalize (Question.appendCap n 0 107).cut (w.tape w.drawn (Question.appendCap n 0 107)) = cap at *
    go_ret
    refine ⟨cap, rfl, ⟨rfl, .inr ⟨w.heap.size, cap, _, rfl, Nat.le_refl _, heap_alloc_new _ _, Nat.zero_le _, c2, ?_, by simp⟩⟩, ((Kp.refl _ _).alloc _).drew⟩
    simp [size_zeroCells]
    omega
set_option maxRecDepth 20000 in
set_option maxHeartbeats 1000000 in
theorem pcat_any (w : World) (ps : List Value) (T : TypeId) (u : Value) (gv cap : Nat) (hv : w.ownsRow 0 107 1 (.slice (some ⟨gv, 0, none⟩) ps.length cap) ps.length ps) (h0 : 0 < ps.length) (hn : ps.length ≤ 1000) (hone : ∀ p, p ∈ ps → p.oneCell' = true) :
    Calls Tryz.prog 169 #[.slice (some ⟨w.heap.size + 1, 0, none⟩) 2 2] ((w.alloc (.cells #[.iface T u] 107)).alloc (.cells #[.slice (some ⟨gv, 0, none⟩) ps.length cap, .slice (some ⟨w.heap.size, 0, none⟩) 1 1] 289)) fun e w' => ∃ g c, e = .returned (.slice (some ⟨g, 0, none⟩) (ps.length + 1) c) ∧ w'.ownsRow w.heap.size 107 1 (.slice (some ⟨g, 0, none⟩) (ps.length + 1) c) (ps.length + 1) (ps ++ [.iface T u]) ∧ Kp (fun _ => False) w w' := by
  obtain ⟨iX, hiX, hzX0, hzX1, hzX2⟩ := info_parts Tryz.info107
  have hk1 : Kp (fun _ => False) w (w.alloc (.cells #[.iface T u] 107)) := (Kp.refl _ _).alloc _
  have hk2 : Kp (fun _ => False) (w.alloc (.cells #[.iface T u] 107)) ((w.alloc (.cells #[.iface T u] 107)).alloc (.cells #[.slice (some ⟨gv, 0, none⟩) ps.length cap, .slice (some ⟨w.heap.size, 0, none⟩) 1 1] 289)) := (Kp.refl _ _).alloc _
  have b1 := hk2.blk (heap_alloc_new w (.cells #[.iface T u] 107)) (fun z => z)
  have b2 : ((w.alloc (.cells #[.iface T u] 107)).alloc (.cells #[.slice (some ⟨gv, 0, none⟩) ps.length cap, .slice (some ⟨w.heap.size, 0, none⟩) 1 1] 289)).heap[w.heap.size + 1]? = some (.cells #[.slice (some ⟨gv, 0, none⟩) ps.length cap, .slice (some ⟨w.heap.size, 0, none⟩) 1 1] 289 (0, 0)) := by
    have := heap_alloc_new (w.alloc (.cells #[.iface T u] 107)) (.cells #[.slice (some ⟨gv, 0, none⟩) ps.length cap, .slice (some ⟨w.heap.size, 0, none⟩) 1 1] 289)
    simpa using this
  have hK := hk1.trans hk2
  clear hk1 hk2
  generalize (w.alloc (.cells #[.iface T u] 107)).alloc (.cells #[.slice (some ⟨gv, 0, none⟩) ps.length cap, .slice (some ⟨w.heap.size, 0, none⟩) 1 1] 289) = W at *
  have b1 : W.heap[w.heap.size]? = some (.cells #[.iface T u] 107 (0, 0)) := b1
  have o0 : W.cell? ⟨w.heap.size + 1, 0, none⟩ = some (.slice (some ⟨gv, 0, none⟩) ps.length cap) := by simp [World.cell?, b2]
  have o1 : W.cell? ⟨w.heap.size + 1, 1, none⟩ = some (.slice (some ⟨w.heap.size, 0, none⟩) 1 1) := by simp [World.cell?, b2]
  have o2 : W.cell? ⟨w.heap.size, 0, none⟩ = some (.iface T u) := by simp [World.cell?, b1]
  have hvc : ∀ (j : Nat) (p : Value), ps[j]? = some p → W.cell? ⟨gv, j, none⟩ = some p := fun j p hj => by
    have := hv.cells (g := gv) rfl j p hj
    rw [addr_add] at this
    exact hK.cell this (fun z => z)
  have HVC : Hid _ := hvc
  have hsz : w.heap.size + 1 < W.heap.size := lt_of_block b2
  clear hvc hv b1 b2
  go_enter Tryz.func169, Tryz.ntmps169
  go_wp2_with fail
  refine wp_loop_rounds 3 ?_
  rw [rounds_succ]
  go_wp2_with fail
  rw [rounds_succ]
  go_wp2_with fail
  have HG : Hid _ := pgrow_any (ps.length + 1) W (by omega) (by omega)
  rw [rounds_succ]
  go_wp2_with fail
  refine Calls.mono HG.out ?_
  rintro e w1 ⟨c1, rfl, hr1, hkg⟩
  have p0 := hkg.cell o0 (fun z => z)
  have p1 := hkg.cell o1 (fun z => z)
  have hs1 := hkg.size
  have hr1 := ownsRow_base hr1 (show w.heap.size ≤ W.heap.size by omega)
  clear HG
  go_wp2_with fail
  refine wp_loop_rounds 3 ?_
  rw [rounds_succ]
  go_wp2_with (at_builtin; refine wpList_append_own2 _ rfl _ _ 289 rfl w.heap.size 107 iX .nilIface 1 16 Tryz.underlying289 hiX hzX0 hzX1 hzX2 rfl (by decide) _ _ _ rfl hr1 ⟨gv, 0, none⟩ ps.length cap ps rfl (by simp) (fun j p hj => by rw [addr_add]; exact hkg.cell (HVC.out j p hj) (fun z => z)) hone (by unfold maxLen; omega) (by omega) (by omega) h0 ?_)
  intro g2 c2 w2 hown2 hgrow2 hfr2
  have hkw : ∀ b, b < W.heap.size → w2.heap[b]? = W.heap[b]? := fun b hb => (hgrow2.block b (by omega) (fun z => by have z : some b = some W.heap.size := z; simp at z; omega)).trans (hkg.block b hb (fun z => z))
  have hcw : ∀ (a : Addr) (p : Value), W.cell? a = some p → w2.cell? a = some p := fun a p h => (World.cell?_of_block (hkw a.block (World.block_lt_of_cell? _ _ h))).trans h
  have r1 := hcw _ _ o1
  have r2 := hcw _ _ o2
  have hown2 : w2.ownsRow w.heap.size 107 1 (.slice (some ⟨g2, 0, none⟩) ps.length c2) ps.length ps := by simpa using hown2
  have hs2 : w1.heap.size ≤ w2.heap.size := hgrow2.size
  have hos2 : w2.os = W.os ∧ w2.tape = W.tape ∧ w2.output = W.output := ⟨hgrow2.os.trans hkg.os, hgrow2.tape.trans hkg.tape, hgrow2.output.trans hkg.output⟩
  clear hgrow2 hfr2 hcw p0 p1 o0 o1 hr1 hone
  go_wp2_with fail
  rw [rounds_succ]
  go_wp2_with (at_builtin; refine wpList_append_own2 _ rfl _ _ 289 rfl w.heap.size 107 iX .nilIface 1 16 Tryz.underlying289 hiX hzX0 hzX1 hzX2 rfl (by decide) _ _ _ rfl hown2 ⟨w.heap.size, 0, none⟩ 1 1 [.iface T u] rfl rfl (fun q u hq => by match q, hq with | 0, hq => simp at hq; subst hq; rw [addr_add]; exact r2) (fun u hu => by simp at hu; subst hu; rfl) (by unfold maxLen; omega) (by omega) (by omega) (by decide) ?_)
  intro g3 c3 w3 hown3 hgrow3 hfr3
  have hFK : Kp (fun _ => False) w w3 := ⟨hgrow3.os.trans (hos2.1.trans hK.os), hgrow3.tape.trans (hos2.2.1.trans hK.tape), hgrow3.output.trans (hos2.2.2.trans hK.output), Nat.le_trans hK.size (by have := hgrow3.size; omega), fun b hb _ => ((hgrow3.block b (by omega) (fun z => by have := (row_own hown2 z.symm).1; omega)).trans (hkw b (by omega))).trans (hK.block b hb (fun z => z))⟩
  have HF : Hid _ := hFK
  have HO : Hid _ := hown3
  clear hgrow3 hfr3 hown2 hown3 hkw hFK
  go_wp2_with fail
  rw [rounds_succ]
  go_wp2
  go_ret
  exact ⟨g3, c3, rfl, HO.out, HF.out⟩
end Go.Proofs.YtleenphlgbklmabGreatDoor

namespace Go.Proofs.YtleenphlgbklmabGreatDoor
open Go.RowKit

set_option maxRecDepth 20000 in
set_option maxHeartbeats 1000000 in
theorem prec_any {s : ByteArray} {L : List Tk} (hE : PEnv s wordsL L) (n : Nat) (hA : ∀ m, m ≤ n → SE s L m) (w : World) (rb k : Nat) (h : PAt w rb s L k) (hR : isM L { data := #[114, 101, 99] } k (-1) = true) (ns1 nms : List ByteArray) (ks1 kds : List X) (y : X) (K1 K2 K3 : Nat) (B1 B2 B3 : Int) (pl : Nat)
    (hX : boundM L n [] [] (k + 1) (-1) = some (ns1, ks1, K1, B1)) (hY : andM L n ns1 ks1 K1 B1 = some (nms, kds, K2, B2)) (hZ : expM L n (takeK L { data := #[105, 110] } K2 B2) (needB L { data := #[105, 110] } K2 B2) = some (y, K3, B3)) :
    Calls Tryz.prog 151 #[.agg #[.pointer (some ⟨rb, 0, none⟩)]] w fun e w' => PRet (QX w (.mk { data := #[114, 101, 99] } nms (kds ++ [y]) pl)) w rb s L K3 B3 e w' := by
  have hk0 : Kp (fun _ => False) w (w.alloc (.cells #[.pointer (some ⟨rb, 0, none⟩)] 174)) := (Kp.refl _ _).alloc _
  have hc0 : (w.alloc (.cells #[.pointer (some ⟨rb, 0, none⟩)] 174)).heap[w.heap.size]? = some (.cells #[.pointer (some ⟨rb, 0, none⟩)] 174 (0, 0)) := heap_alloc_new _ _
  have h0 : PAt (w.alloc (.cells #[.pointer (some ⟨rb, 0, none⟩)] 174)) rb s L k := h.kp hk0
  have hrl := h.lt'
  generalize hw0 : w.alloc (.cells #[.pointer (some ⟨rb, 0, none⟩)] 174) = w0 at *
  have a0 : w0.cell? ⟨w.heap.size, 0, none⟩ = some (.pointer (some ⟨rb, 0, none⟩)) := by simp [World.cell?, hc0]
  have HB : Hid (PB L) := hE.pb
  have HA : Hid _ := hA
  have C1 := px_expect hE h0 { data := #[114, 101, 99] } (.inl (by simp [wordsL])) (by decide) (by decide)
  rw [(need_true hR).1, (need_true hR).2] at C1
  have HC : Hid _ := C1
  have HX : Hid _ := hX
  have HY : Hid _ := hY
  have HZ : Hid _ := hZ
  have HFb : Hid (∀ Kb Bb, 0 ≤ bz L Kb Bb → (∃ m ns ks ns1 ks1 K1 B1, boundM L m ns ks Kb Bb = some (ns1, ks1, K1, B1) ∧ andM L m ns1 ks1 K1 B1 = some (nms, kds, K2, B2)) → bz L K3 B3 = bz L Kb Bb) := fun Kb Bb hz ⟨m, ns, ks, ns1, ks1, K1, B1, e1, e2⟩ => by
    have q1 := (stk L m).bo _ _ _ _ _ _ _ _ e1 hz
    have q2 := (stk L m).an _ _ _ _ _ _ _ _ e2 (by rw [q1]; exact hz)
    have q3 := need_bz' (q := { data := #[105, 110] }) (show 0 ≤ bz L K2 B2 by rw [q2, q1]; exact hz) (by decide)
    have q4 := (stk L n).ex _ _ _ _ _ hZ (by rw [q3, q2, q1]; exact hz)
    rw [q4, q3, q2, q1]
  have HFe : Hid (∀ Kb Bb m ns ks, andM L m ns ks Kb Bb = some (nms, kds, K2, B2) → 0 ≤ bz L Kb Bb → bz L K3 B3 = bz L Kb Bb) := fun Kb Bb m ns ks e2 hz => by
    have q2 := (stk L m).an _ _ _ _ _ _ _ _ e2 hz
    have q3 := need_bz' (q := { data := #[105, 110] }) (show 0 ≤ bz L K2 B2 by rw [q2]; exact hz) (by decide)
    have q4 := (stk L n).ex _ _ _ _ _ hZ (by rw [q3, q2]; exact hz)
    rw [q4, q3, q2]
  obtain ⟨i9, hi9, hz90, hz91, hz92⟩ := info_parts Tryz.info9
  obtain ⟨iX, hiX, hzX0, hzX1, hzX2⟩ := info_parts Tryz.info107
  clear hA hX hY hZ h C1
  go_enter Tryz.func151, Tryz.ntmps151
  go_wp2_with fail
  refine Calls.mono HC.out ?_
  intro e w1 hres
  clear HC
  by_cases hz : 0 ≤ bz L (k + 1) (-1)
  · obtain ⟨b, he, hx⟩ := hres.2 hz
    rw [he]
    clear he hres
    go_wp2
    exact ⟨rfl, PRet.up (Kq.of_kp hk0 (fun _ z => z.elim)) hz (fun hz => HFb.out _ _ hz ⟨n, _, _, _, _, _, _, HX.out, HY.out⟩) ⟨b, rfl, hx⟩⟩
  obtain ⟨_, v, he, hv, P1, kq⟩ := hres.1 (by omega)
  clear hz hres
  subst hv
  subst he
  have KK1 := (Kq.of_kp (S := (· = rb)) hk0 (fun _ z => z.elim)).trans kq
  have hc1 := (kq.block _ (lt_of_block hc0) (by show ¬ _; omega)).trans hc0
  have hs1 : w.heap.size < w1.heap.size := lt_of_block hc1
  have R1 : RecSt w w1 rb s L [] [] (.slice none 0 0) (.slice none 0 0) [] (k + 1) := ⟨World.ownsRow_nil _ _ _ _, World.ownsRow_nil _ _ _ _, rfl, fun j x p h1 _ => by simp at h1, P1, KK1, hc1, fun m hm => by simp at hm, hrl, by simp [dps]⟩
  clear hR P1 KK1 hc1 kq
  go_wp2_with fail
  go_loopg [3, 4] n (fun m nv vv wr => ∃ (names : List ByteArray) (kids : List X) (ps : List Value) (Kr : Nat) (ns1 : List ByteArray) (ks1 : List X) (K1 : Nat) (B1 : Int), RecSt w wr rb s L names kids nv vv ps Kr ∧ Hid (names.length = kids.length) ∧ names.length ≤ Kr ∧ Hid (boundM L m names kids Kr (-1) = some (ns1, ks1, K1, B1) ∧ andM L m ns1 ks1 K1 B1 = some (nms, kds, K2, B2)) ∧ m ≤ n)
  case atStart => exact ⟨[], [], [], k + 1, ns1, ks1, K1, B1, R1, rfl, Nat.zero_le _, ⟨HX.out, HY.out⟩, Nat.le_refl _⟩
  case round =>
    obtain ⟨names, kids, ps, Kr, nsr, ksr, Kx, Bx, R, HNK, hlK, HM, hmn⟩ := hrel
    clear R1 HX HY
    obtain ⟨an, cn, rfl⟩ : ∃ ao cap, u3 = .slice ao names.length cap := by
      rcases R.nm.2 with ⟨e1, e2⟩ | ⟨g, cap, cur, e1, _⟩
      · exact ⟨none, 0, by rw [e1, e2]⟩
      · exact ⟨_, cap, e1⟩
    obtain ⟨av, cv, rfl⟩ : ∃ ao cap, u4 = .slice ao ps.length cap := by
      rcases R.vl.2 with ⟨e1, e2⟩ | ⟨g, cap, cur, e1, _⟩
      · exact ⟨none, 0, by rw [e1, e2]⟩
      · exact ⟨_, cap, e1⟩
    cases gk with
    | zero =>
      have := HM.out.1
      simp [boundM] at this
    | succ m =>
    have q := HM.out.1
    simp only [boundM] at q
    obtain ⟨Ka, eKa⟩ : ∃ K, takeK L { data := #[110, 97, 109, 101] } Kr (-1) = K := ⟨_, rfl⟩
    obtain ⟨Ba, eBa⟩ : ∃ B, dupB names (tkAt L Kr).s (tkAt L Kr).loc (needB L { data := #[110, 97, 109, 101] } Kr (-1)) = B := ⟨_, rfl⟩
    rw [eKa, eBa] at q
    obtain ⟨Kb, eKb⟩ : ∃ K, takeK L { data := #[61] } Ka Ba = K := ⟨_, rfl⟩
    obtain ⟨Bb, eBb⟩ : ∃ B, needB L { data := #[61] } Ka Ba = B := ⟨_, rfl⟩
    rw [eKb, eBb] at q
    obtain ⟨⟨x, Kc, Bc⟩, q1, q2⟩ := Option.bind_eq_some_iff.1 q
    simp only [Option.some.injEq, Prod.mk.injEq] at q2
    obtain ⟨rfl, rfl, rfl, rfl⟩ := q2
    have F3 : Hid (0 ≤ bz L Kc Bc → bz L K3 B3 = bz L Kc Bc) := HFe.out _ _ _ _ _ HM.out.2
    have F2 : Hid (0 ≤ bz L Kb Bb → bz L K3 B3 = bz L Kb Bb) := sticks (fun hz => (stk L m).ex _ _ _ _ _ q1 hz) F3.out
    have F1 : Hid (0 ≤ bz L Ka Ba → bz L K3 B3 = bz L Ka Ba) := sticks (fun hz => by rw [← eKb, ← eBb]; exact need_bz' hz (by decide)) F2.out
    have Q1 : Hid _ := q1
    have QA : Hid _ := HM.out.2
    have C1 := pnewname hE R.at' names _ (ownsRow_base R.nm (Nat.zero_le _))
    rw [eKa, eBa] at C1
    have HC1 : Hid _ := C1
    have hKb : Ka ≤ Kb := by rw [← eKb]; unfold takeK; split <;> omega
    have EKb : Hid _ := eKb
    have EBb : Hid _ := eBb
    have hKa : Hid (Ba = -1 → Ka = Kr + 1) := fun hb => by
      cases hM : isM L { data := #[110, 97, 109, 101] } Kr (-1)
      · rw [(need_false hM).2, dup_ge (by omega)] at eBa
        omega
      · rw [← eKa, (need_true hM).1]
    have ar : wr.cell? ⟨w.heap.size, 0, none⟩ = some (.pointer (some ⟨rb, 0, none⟩)) := by simp [World.cell?, R.rc]
    clear q q1 C1 eKb eBb eKa eBa HM
    go_wp2_with fail
    refine Calls.mono HC1.out ?_
    intro e w2 hres
    clear HC1
    by_cases hz : 0 ≤ bz L Ka Ba
    · obtain ⟨b, he, hx⟩ := hres.2 hz
      rw [he]
      clear he hres
      go_wp2
      exact ⟨rfl, PRet.up R.kq hz F1.out ⟨b, rfl, hx⟩⟩
    obtain ⟨hb, v, he, hv, P2, kq⟩ := hres.1 (by omega)
    clear hz hres
    obtain ⟨hv, hWd⟩ := hv
    subst hv
    subst he
    have hKa1 := hKa.out hb
    subst hb
    have R2 := R.move kq P2
    have hlen := HB.out.len
    have hl2 := P2.lt
    have hs2 : w.heap.size ≤ w2.heap.size := R2.kq.size
    clear R ar P2 kq
    go_wp2_with (at_builtin; refine wpList_append_own2 _ rfl (.tmp 10) (.tmp 14) 26 rfl w.heap.size 9 i9 (.string { data := #[] }) 1 16 Tryz.underlying26 hi9 hz90 hz91 hz92 rfl (by decide) _ _ _ rfl (R2.nm.alloc _) ⟨w2.heap.size, 0, none⟩ 1 1 [.string (tkAt L Kr).s] rfl rfl (fun q u hq => by match q, hq with | 0, hq => simp at hq; subst hq; simp [Addr.add]) (fun u hu => by simp at hu; subst hu; rfl) (by unfold maxLen; omega) (by omega) (by simp; omega) (by decide) ?_)
    intro g3 cap3 w3 hown3 hgrow3 hfr3
    obtain ⟨R3, hs3⟩ := R2.name (tkAt L Kr).s hWd _ hown3 hgrow3 (by simpa using hfr3)
    have a3 : w3.cell? ⟨w.heap.size, 0, none⟩ = some (.pointer (some ⟨rb, 0, none⟩)) := by simp [World.cell?, R3.rc]
    have C2 := px_expect hE R3.at' { data := #[61] } (.inr (.inr ⟨61, rfl, rfl⟩)) (by decide) (by decide)
    rw [EKb.out, EBb.out] at C2
    have HC2 : Hid _ := C2
    clear C2 R2 hown3 hgrow3 hfr3
    go_wp2_with fail
    refine Calls.mono HC2.out ?_
    intro e w4 hres
    clear HC2
    by_cases hz : 0 ≤ bz L Kb Bb
    · obtain ⟨b, he, hx⟩ := hres.2 hz
      rw [he]
      clear he hres
      go_wp2
      exact ⟨rfl, PRet.up R3.kq hz F2.out ⟨b, rfl, hx⟩⟩
    obtain ⟨hb, v, he, hv, P4, kq⟩ := hres.1 (by omega)
    clear hz hres
    subst hv
    subst he
    subst hb
    have R4 := R3.move kq P4
    have a4 : w4.cell? ⟨w.heap.size, 0, none⟩ = some (.pointer (some ⟨rb, 0, none⟩)) := by simp [World.cell?, R4.rc]
    have hs4 : w3.heap.size ≤ w4.heap.size := kq.size
    have HC3 : Hid _ := HA.out m (by omega) _ _ _ _ _ _ R4.at' Q1.out
    clear R3 a3 P4 kq
    go_wp2_with fail
    refine Calls.mono HC3.out ?_
    intro e w5 hres
    clear HC3
    by_cases hz : 0 ≤ bz L Kc Bc
    · obtain ⟨b, he, hx⟩ := hres.2 hz
      rw [he]
      clear he hres
      go_wp2
      exact ⟨rfl, PRet.up R4.kq hz F3.out ⟨b, rfl, hx⟩⟩
    obtain ⟨hb, v, he, hv, P5, kq⟩ := hres.1 (by omega)
    clear hz hres
    have R5 := R4.move kq P5
    have hx5 : PX w5 (fun b => w.heap.size ≤ b ∧ (Value.slice (some ⟨g3, 0, none⟩) (names.length + 1) cap3).ownBlock ≠ some b ∧ (Value.slice av ps.length cv).ownBlock ≠ some b) x v := hv.mono (fun b h1 _ => ⟨by omega, fun z => by have := (row_own R4.nm z).2.1; omega, fun z => by have := (row_own R4.vl z).2.1; omega⟩)
    obtain ⟨T5, t5, rfl⟩ := hv.iface
    subst he
    subst hb
    have hma := ((made L HB.out.sz m).e _ _ _ _ _ Q1.out (by omega))
    have hl5 := P5.lt
    have hdx := HB.out.dp Q1.out (by omega) hl5
    have hlp : ps.length ≤ Kr := by rw [R5.ln, ← HNK.out]; exact hlK
    have hs5 : w4.heap.size ≤ w5.heap.size := kq.size
    have hs5' : w.heap.size ≤ w5.heap.size := R5.kq.size
    clear R4 a4 P5 kq hv
    go_wp2_with (at_builtin; refine wpList_append_own2 _ rfl (.tmp 19) (.tmp 22) 289 rfl w.heap.size 107 iX .nilIface 1 16 Tryz.underlying289 hiX hzX0 hzX1 hzX2 rfl (by decide) _ _ _ rfl (R5.vl.alloc _) ⟨w5.heap.size, 0, none⟩ 1 1 [.iface T5 t5] rfl rfl (fun q u hq => by match q, hq with | 0, hq => simp at hq; subst hq; simp [Addr.add]) (fun u hu => by simp at hu; subst hu; rfl) (by unfold maxLen; omega) (by omega) (by simp; omega) (by decide) ?_)
    intro g6 cap6 w6 hown6 hgrow6 hfr6
    obtain ⟨R6, hs6⟩ := R5.value x _ hx5 _ hown6 hgrow6 (by simpa using hfr6) hdx
    have a6 : w6.cell? ⟨w.heap.size, 0, none⟩ = some (.pointer (some ⟨rb, 0, none⟩)) := by simp [World.cell?, R6.rc]
    have HI : Hid _ := at_is hE R6.at' { data := #[97, 110, 100] } (.inl (by simp [wordsL]))
    clear R5 hx5 hown6 hgrow6 hfr6
    go_wp2_with fail
    refine Calls.mono HI.out ?_
    rintro e w' ⟨rfl, hww⟩
    rw [hww]
    clear hww w' HI
    cases hM : isM L { data := #[97, 110, 100] } Kc (-1)
    · have q := QA.out
      simp only [andM, hM, Bool.false_eq_true, if_false, Option.some.injEq, Prod.mk.injEq] at q
      obtain ⟨rfl, rfl, rfl, rfl⟩ := q
      obtain ⟨Ke, eKe⟩ : ∃ K, takeK L { data := #[105, 110] } Kc (-1) = K := ⟨_, rfl⟩
      obtain ⟨Be, eBe⟩ : ∃ B, needB L { data := #[105, 110] } Kc (-1) = B := ⟨_, rfl⟩
      have z1 := HZ.out
      rw [eKe, eBe] at z1
      have F4 : Hid (0 ≤ bz L Ke Be → bz L K3 B3 = bz L Ke Be) := fun hz => (stk L n).ex _ _ _ _ _ z1 hz
      have Z1 : Hid _ := z1
      have C5 := px_expect hE R6.at' { data := #[105, 110] } (.inl (by simp [wordsL])) (by decide) (by decide)
      rw [eKe, eBe] at C5
      have HC5 : Hid _ := C5
      clear QA F1 F2 F3 HFb HFe hM C5 z1 eKe eBe HZ
      go_wp2_with fail
      refine Calls.mono HC5.out ?_
      intro e w7 hres
      clear HC5
      by_cases hz : 0 ≤ bz L Ke Be
      · obtain ⟨b, he, hx⟩ := hres.2 hz
        rw [he]
        clear he hres
        go_wp2
        exact ⟨rfl, PRet.up R6.kq hz F4.out ⟨b, rfl, hx⟩⟩
      obtain ⟨hb, v, he, hv, P7, kq⟩ := hres.1 (by omega)
      clear hz hres
      subst hv
      subst he
      subst hb
      have R7 := R6.move kq P7
      have a7 : w7.cell? ⟨w.heap.size, 0, none⟩ = some (.pointer (some ⟨rb, 0, none⟩)) := by simp [World.cell?, R7.rc]
      have HC6 : Hid _ := HA.out n (Nat.le_refl _) _ _ _ _ _ _ R7.at' Z1.out
      clear R6 a6 P7 kq
      go_wp2_with fail
      refine Calls.mono HC6.out ?_
      intro e w8 hres
      clear HC6
      by_cases hz : 0 ≤ bz L K3 B3
      · obtain ⟨b, he, hx⟩ := hres.2 hz
        rw [he]
        clear he hres
        go_wp2
        exact ⟨rfl, PRet.up R7.kq hz (fun _ => rfl) ⟨b, rfl, hx⟩⟩
      obtain ⟨hb, v, he, hv, P8, kq⟩ := hres.1 (by omega)
      clear hz hres
      have R8 := R7.move kq P8
      have Y8 : PX w8 (fun b => w.heap.size ≤ b) y v := hv.mono (fun b h1 _ => Nat.le_trans R7.kq.size h1)
      obtain ⟨T8, t8, rfl⟩ := hv.iface
      subst he
      subst hb
      have hdy := HB.out.dp Z1.out (by omega) P8.lt
      clear R7 a7 P8 kq hv Z1 F4
      have hone : ∀ p, p ∈ ps ++ [.iface T5 t5] → p.oneCell' = true := fun p hp => by
        obtain ⟨jj, hj, e⟩ := List.getElem_of_mem hp
        have hj2 : jj < (kids ++ [x]).length := by rw [← R8.ln]; exact hj
        obtain ⟨T, t, e2⟩ := (R8.px jj (kids ++ [x])[jj] p (by simp [hj2]) (by rw [List.getElem?_eq_getElem hj, e])).iface
        rw [e2]
        rfl
      have C9 := pcat_any w8 (ps ++ [.iface T5 t5]) T8 t8 g6 cap6 (by have h := ownsRow_base R8.vl (Nat.zero_le w.heap.size); simpa using h) (by simp) (by simp; omega) hone
      have hpl : (ps ++ [Value.iface T5 t5]).length = ps.length + 1 := by simp
      rw [hpl] at C9
      have HC9 : Hid _ := C9
      have HPL : Hid _ := hpl
      clear C9 hone hpl
      go_wp2_with fail
      refine Calls.mono HC9.out ?_
      rintro e w9 ⟨g9, c9, rfl, hown9, hk9⟩
      clear HC9
      have hlen9 : ((ps ++ [Value.iface T5 t5]) ++ [Value.iface T8 t8]).length = ps.length + 1 + 1 := by simp
      have hxl : ((ps ++ [Value.iface T5 t5]) ++ [Value.iface T8 t8]).length = ((kids ++ [x]) ++ [y]).length := by
        have h := R8.ln
        simp only [List.length_append, List.length_cons, List.length_nil] at h ⊢
        omega
      have C10 := above_any ((kids ++ [x]) ++ [y]) ((ps ++ [.iface T5 t5]) ++ [.iface T8 t8]) g9 c9 w9 (fun b => w.heap.size ≤ b) hxl (fun jj hj => hown9.cellAt jj (by rw [hlen9] at hj; omega)) (fun jj yy p h1 h2 => by
        by_cases hj : jj < (kids ++ [x]).length
        · rw [List.getElem?_append_left hj] at h1
          rw [List.getElem?_append_left (by rw [R8.ln]; exact hj)] at h2
          exact ((R8.px jj yy p h1 h2).mono (fun b hP _ => hP.1)).kp hk9
        · rw [List.getElem?_append_right (by omega)] at h1
          rw [List.getElem?_append_right (by rw [R8.ln]; omega), R8.ln] at h2
          have e : jj - (kids ++ [x]).length = 0 := by
            have := (List.getElem?_eq_some_iff.1 h1).1
            simp only [List.length_cons, List.length_nil] at this
            omega
          rw [e] at h1 h2
          simp at h1 h2
          subst h1
          subst h2
          exact Y8.kp hk9) (by rw [hlen9]; omega) (by rw [dps_append]; have := R8.db; omega)
      obtain ⟨D, hD⟩ : ∃ D, dps ((kids ++ [x]) ++ [y]) = D := ⟨_, rfl⟩
      rw [hlen9, hD] at C10
      have HD : Hid _ := hD
      have HC10 : Hid _ := C10
      clear C10 hlen9 hxl hown9 hD
      go_wp2_with fail
      refine Calls.mono HC10.out ?_
      rintro e wfp ⟨rfl, hkf⟩
      clear HC10
      have hkF := hk9.trans hkf
      have hkg : Kp (fun _ => False) wfp (wfp.alloc (.cells #[.int .i64 ((D : Int) + 1), .slice (some ⟨g3, 0, none⟩) (names.length + 1) cap3, .slice (some ⟨g6, 0, none⟩) (ps.length + 1) cap6, .iface T8 t8] 291)) := (Kp.refl _ _).alloc _
      have hbg : (wfp.alloc (.cells #[.int .i64 ((D : Int) + 1), .slice (some ⟨g3, 0, none⟩) (names.length + 1) cap3, .slice (some ⟨g6, 0, none⟩) (ps.length + 1) cap6, .iface T8 t8] 291)).heap[wfp.heap.size]? = some (.cells #[.int .i64 ((D : Int) + 1), .slice (some ⟨g3, 0, none⟩) (names.length + 1) cap3, .slice (some ⟨g6, 0, none⟩) (ps.length + 1) cap6, .iface T8 t8] 291 (0, 0)) := heap_alloc_new _ _
      have hkG := hkF.trans hkg
      have XG : PX (wfp.alloc (.cells #[.int .i64 ((D : Int) + 1), .slice (some ⟨g3, 0, none⟩) (names.length + 1) cap3, .slice (some ⟨g6, 0, none⟩) (ps.length + 1) cap6, .iface T8 t8] 291)) (fun b => w.heap.size ≤ b) (.mk { data := #[114, 101, 99] } (names ++ [(tkAt L Kr).s]) ((kids ++ [x]) ++ [y]) pl) (.iface 250 (.pointer (some ⟨wfp.heap.size, 0, none⟩))) := by
        have hdd : D = max (dps (kids ++ [x])) (dp y) := HD.out.symm.trans (dps_append _ _)
        refine PX.rc _ _ _ _ _ _ _ _ (ps ++ [.iface T5 t5]) (by simp) R8.wd (Nat.le_trans R8.kq.size hkF.size) (hbg.trans (by rw [hdd]; rfl)) ?_ ?_ (fun g hg => (row_own R8.nm hg).1) (fun g hg => (row_own R8.vl hg).1) R8.ln (by rw [List.length_append, List.length_append, HNK.out]; rfl) (fun jj yy p h1 h2 => ((R8.px jj yy p h1 h2).mono (fun b hP _ => hP.1)).kp hkG) (Y8.kp hkG)
        · have := ownsRow_base R8.nm (Nat.zero_le _)
          exact row_same (P := fun _ => True) (fun b _ hb => hkG.block b hb (fun z => z)) (fun _ _ => trivial) this
        · have := ownsRow_base R8.vl (Nat.zero_le _)
          exact row_same (P := fun _ => True) (fun b _ hb => hkG.block b hb (fun z => z)) (fun _ _ => trivial) this
      have FX : Hid (PRet (QX w (.mk { data := #[114, 101, 99] } (names ++ [(tkAt L Kr).s]) ((kids ++ [x]) ++ [y]) pl)) w rb s L K3 (-1) (.returned (.iface 250 (.pointer (some ⟨wfp.heap.size, 0, none⟩)))) (wfp.alloc (.cells #[.int .i64 ((D : Int) + 1), .slice (some ⟨g3, 0, none⟩) (names.length + 1) cap3, .slice (some ⟨g6, 0, none⟩) (ps.length + 1) cap6, .iface T8 t8] 291))) := PRet.ret (Q := QX w (.mk { data := #[114, 101, 99] } (names ++ [(tkAt L Kr).s]) ((kids ++ [x]) ++ [y]) pl)) XG (R8.at'.kp hkG) (R8.kq.trans (Kq.of_kp (S := (· = rb)) hkG (fun _ z => z.elim)))
      clear hkg hbg XG hkG Y8
      go_wp2
      go_ret
      exact FX.out
    · have q := QA.out
      simp only [andM, hM, if_true] at q
      obtain ⟨⟨ns2, ks2, Kd, Bd⟩, q1, q2⟩ := Option.bind_eq_some_iff.1 q
      simp only at q2
      have QN : Hid (boundM L m (names ++ [(tkAt L Kr).s]) (kids ++ [x]) (Kc + 1) (-1) = some (ns2, ks2, Kd, Bd) ∧ andM L m ns2 ks2 Kd Bd = some (nms, kds, K2, B2)) := ⟨q1, q2⟩
      have hkc := isM_lt hE.good hl5 hM (by decide) (by decide)
      have HC4 : Hid _ := px_adv hE R6.at' hkc
      clear q q1 q2 QA hM
      go_wp2_with fail
      refine Calls.mono HC4.out ?_
      intro e w7 hres
      clear HC4
      by_cases hz : 0 ≤ bz L (Kc + 1) (-1)
      · obtain ⟨b, he, hx⟩ := hres.2 hz
        rw [he]
        clear he hres
        go_wp2
        exact ⟨rfl, PRet.up R6.kq hz (fun hz => HFb.out _ _ hz ⟨m, _, _, _, _, _, _, QN.out⟩) ⟨b, rfl, hx⟩⟩
      obtain ⟨_, v, he, hv, P7, kq⟩ := hres.1 (by omega)
      clear hz hres
      subst hv
      subst he
      have R7 := R6.move kq P7
      have HNK2 : Hid ((names ++ [(tkAt L Kr).s]).length = (kids ++ [x]).length) := by
        show _ = _
        rw [List.length_append, List.length_append, HNK.out]
        rfl
      clear R6 a6 P7 kq
      go_wp2
      go_roundg m
      case measure => omega
      case rel => exact ⟨_, _, _, _, _, _, _, _, R7, HNK2, by simp; omega, QN, by omega⟩
end Go.Proofs.YtleenphlgbklmabGreatDoor

namespace Go.Proofs.YtleenphlgbklmabGreatDoor
open Go.RowKit

theorem PRet.lift {w w0 w' : World} {rb : Nat} {s : ByteArray} {L : List Tk} {k' : Nat} {bad' : Int} {e : Ending} {x : X} (hk : Kq (· = rb) w w0) (h : PRet (QX w0 x) w0 rb s L k' bad' e w') : PRet (QX w x) w rb s L k' bad' e w' := by
  refine ⟨fun q => ?_, fun q => (h.2 q).before hk⟩
  obtain ⟨h1, v, h2, h3, h4, h5⟩ := h.1 q
  exact ⟨h1, v, h2, h3.mono (fun b hb _ => Nat.le_trans hk.size hb), h4, hk.trans h5⟩
theorem PRet.ways {w w' : World} {rb : Nat} {s : ByteArray} {L : List Tk} {k' : Nat} {bad' : Int} {e : Ending} {x : X} (h : PRet (QX w x) w rb s L k' bad' e w') : (∃ T u, e = .returned (.iface T u)) ∨ (∃ b : Nat, e = thrown (.iface 83 (.pointer (some ⟨b, 0, none⟩)))) := by
  by_cases hz : 0 ≤ bz L k' bad'
  · obtain ⟨b, he, _⟩ := h.2 hz
    exact .inr ⟨b, he⟩
  · obtain ⟨_, v, he, hv, _⟩ := h.1 (by omega)
    obtain ⟨T, u, rfl⟩ := hv.iface
    exact .inl ⟨T, u, he⟩
set_option maxRecDepth 20000 in
set_option maxHeartbeats 1000000 in
theorem pexp_fun {s : ByteArray} {L : List Tk} (hE : PEnv s wordsL L) (w : World) (rb k : Nat) (h : PAt w rb s L k) (m0 : isM L { data := #[102, 117, 110] } k (-1) = true) (x : X) (k' : Nat) (bad' : Int)
    (hC : ∀ w1, PAt w1 rb s L k → Calls Tryz.prog 108 #[.agg #[.pointer (some ⟨rb, 0, none⟩)]] w1 fun e w' => PRet (QX w1 x) w1 rb s L k' bad' e w') :
    Calls Tryz.prog 75 #[.agg #[.pointer (some ⟨rb, 0, none⟩)]] w fun e w' => PRet (QX w x) w rb s L k' bad' e w' := by
  have hk0 : Kp (fun _ => False) w (w.alloc (.cells #[.pointer (some ⟨rb, 0, none⟩)] 174)) := (Kp.refl _ _).alloc _
  have hc0 : (w.alloc (.cells #[.pointer (some ⟨rb, 0, none⟩)] 174)).heap[w.heap.size]? = some (.cells #[.pointer (some ⟨rb, 0, none⟩)] 174 (0, 0)) := heap_alloc_new _ _
  have h0 : PAt (w.alloc (.cells #[.pointer (some ⟨rb, 0, none⟩)] 174)) rb s L k := h.kp hk0
  have hrl := h.lt'
  generalize hw0 : w.alloc (.cells #[.pointer (some ⟨rb, 0, none⟩)] 174) = w0 at *
  have a0 : w0.cell? ⟨w.heap.size, 0, none⟩ = some (.pointer (some ⟨rb, 0, none⟩)) := by simp [World.cell?, hc0]
  have HC : Hid _ := hC w0 h0
  have H0 : Hid _ := at_is hE h0 { data := #[102, 117, 110] } (.inl (by simp [wordsL]))
  rw [m0] at H0
  clear hC h h0 m0
  go_enter Tryz.func75, Tryz.ntmps75
  go_wp2_with fail
  refine Calls.mono H0.out ?_
  rintro e w' ⟨rfl, hww⟩
  rw [hww]
  clear hww w'
  go_wp2_with fail
  refine Calls.mono HC.out ?_
  intro e w1 hres
  rcases hres.ways with ⟨T, u, he⟩ | ⟨b, he⟩
  · rw [he] at hres ⊢
    have HR : Hid _ := hres
    clear hres HC
    go_wp2
    go_ret
    exact PRet.lift (Kq.of_kp hk0 (fun _ z => z.elim)) HR.out
  · rw [he] at hres ⊢
    have HR : Hid _ := hres
    clear hres HC
    go_wp2
    exact ⟨rfl, PRet.lift (Kq.of_kp hk0 (fun _ z => z.elim)) HR.out⟩
set_option maxRecDepth 20000 in
set_option maxHeartbeats 1000000 in
theorem pexp_if {s : ByteArray} {L : List Tk} (hE : PEnv s wordsL L) (w : World) (rb k : Nat) (h : PAt w rb s L k) (m0 : isM L { data := #[102, 117, 110] } k (-1) = false) (m1 : isM L { data := #[105, 102] } k (-1) = true) (x : X) (k' : Nat) (bad' : Int)
    (hC : ∀ w1, PAt w1 rb s L k → Calls Tryz.prog 109 #[.agg #[.pointer (some ⟨rb, 0, none⟩)]] w1 fun e w' => PRet (QX w1 x) w1 rb s L k' bad' e w') :
    Calls Tryz.prog 75 #[.agg #[.pointer (some ⟨rb, 0, none⟩)]] w fun e w' => PRet (QX w x) w rb s L k' bad' e w' := by
  have hk0 : Kp (fun _ => False) w (w.alloc (.cells #[.pointer (some ⟨rb, 0, none⟩)] 174)) := (Kp.refl _ _).alloc _
  have hc0 : (w.alloc (.cells #[.pointer (some ⟨rb, 0, none⟩)] 174)).heap[w.heap.size]? = some (.cells #[.pointer (some ⟨rb, 0, none⟩)] 174 (0, 0)) := heap_alloc_new _ _
  have h0 : PAt (w.alloc (.cells #[.pointer (some ⟨rb, 0, none⟩)] 174)) rb s L k := h.kp hk0
  have hrl := h.lt'
  generalize hw0 : w.alloc (.cells #[.pointer (some ⟨rb, 0, none⟩)] 174) = w0 at *
  have a0 : w0.cell? ⟨w.heap.size, 0, none⟩ = some (.pointer (some ⟨rb, 0, none⟩)) := by simp [World.cell?, hc0]
  have HC : Hid _ := hC w0 h0
  have H0 : Hid _ := at_is hE h0 { data := #[102, 117, 110] } (.inl (by simp [wordsL]))
  rw [m0] at H0
  have H1 : Hid _ := at_is hE h0 { data := #[105, 102] } (.inl (by simp [wordsL]))
  rw [m1] at H1
  clear hC h h0 m0 m1
  go_enter Tryz.func75, Tryz.ntmps75
  go_wp2_with fail
  refine Calls.mono H0.out ?_
  rintro e w' ⟨rfl, hww⟩
  rw [hww]
  clear hww w'
  go_wp2_with fail
  refine Calls.mono H1.out ?_
  rintro e w' ⟨rfl, hww⟩
  rw [hww]
  clear hww w'
  go_wp2_with fail
  refine Calls.mono HC.out ?_
  intro e w1 hres
  rcases hres.ways with ⟨T, u, he⟩ | ⟨b, he⟩
  · rw [he] at hres ⊢
    have HR : Hid _ := hres
    clear hres HC
    go_wp2
    go_ret
    exact PRet.lift (Kq.of_kp hk0 (fun _ z => z.elim)) HR.out
  · rw [he] at hres ⊢
    have HR : Hid _ := hres
    clear hres HC
    go_wp2
    exact ⟨rfl, PRet.lift (Kq.of_kp hk0 (fun _ z => z.elim)) HR.out⟩
set_option maxRecDepth 20000 in
set_option maxHeartbeats 1000000 in
theorem pexp_let {s : ByteArray} {L : List Tk} (hE : PEnv s wordsL L) (w : World) (rb k : Nat) (h : PAt w rb s L k) (m0 : isM L { data := #[102, 117, 110] } k (-1) = false) (m1 : isM L { data := #[105, 102] } k (-1) = false) (m2 : isM L { data := #[108, 101, 116] } k (-1) = true) (x : X) (k' : Nat) (bad' : Int)
    (hC : ∀ w1, PAt w1 rb s L k → Calls Tryz.prog 110 #[.agg #[.pointer (some ⟨rb, 0, none⟩)]] w1 fun e w' => PRet (QX w1 x) w1 rb s L k' bad' e w') :
    Calls Tryz.prog 75 #[.agg #[.pointer (some ⟨rb, 0, none⟩)]] w fun e w' => PRet (QX w x) w rb s L k' bad' e w' := by
  have hk0 : Kp (fun _ => False) w (w.alloc (.cells #[.pointer (some ⟨rb, 0, none⟩)] 174)) := (Kp.refl _ _).alloc _
  have hc0 : (w.alloc (.cells #[.pointer (some ⟨rb, 0, none⟩)] 174)).heap[w.heap.size]? = some (.cells #[.pointer (some ⟨rb, 0, none⟩)] 174 (0, 0)) := heap_alloc_new _ _
  have h0 : PAt (w.alloc (.cells #[.pointer (some ⟨rb, 0, none⟩)] 174)) rb s L k := h.kp hk0
  have hrl := h.lt'
  generalize hw0 : w.alloc (.cells #[.pointer (some ⟨rb, 0, none⟩)] 174) = w0 at *
  have a0 : w0.cell? ⟨w.heap.size, 0, none⟩ = some (.pointer (some ⟨rb, 0, none⟩)) := by simp [World.cell?, hc0]
  have HC : Hid _ := hC w0 h0
  have H0 : Hid _ := at_is hE h0 { data := #[102, 117, 110] } (.inl (by simp [wordsL]))
  rw [m0] at H0
  have H1 : Hid _ := at_is hE h0 { data := #[105, 102] } (.inl (by simp [wordsL]))
  rw [m1] at H1
  have H2 : Hid _ := at_is hE h0 { data := #[108, 101, 116] } (.inl (by simp [wordsL]))
  rw [m2] at H2
  clear hC h h0 m0 m1 m2
  go_enter Tryz.func75, Tryz.ntmps75
  go_wp2_with fail
  refine Calls.mono H0.out ?_
  rintro e w' ⟨rfl, hww⟩
  rw [hww]
  clear hww w'
  go_wp2_with fail
  refine Calls.mono H1.out ?_
  rintro e w' ⟨rfl, hww⟩
  rw [hww]
  clear hww w'
  go_wp2_with fail
  refine Calls.mono H2.out ?_
  rintro e w' ⟨rfl, hww⟩
  rw [hww]
  clear hww w'
  go_wp2_with fail
  refine Calls.mono HC.out ?_
  intro e w1 hres
  rcases hres.ways with ⟨T, u, he⟩ | ⟨b, he⟩
  · rw [he] at hres ⊢
    have HR : Hid _ := hres
    clear hres HC
    go_wp2
    go_ret
    exact PRet.lift (Kq.of_kp hk0 (fun _ z => z.elim)) HR.out
  · rw [he] at hres ⊢
    have HR : Hid _ := hres
    clear hres HC
    go_wp2
    exact ⟨rfl, PRet.lift (Kq.of_kp hk0 (fun _ z => z.elim)) HR.out⟩
set_option maxRecDepth 20000 in
set_option maxHeartbeats 1000000 in
theorem pexp_atoms {s : ByteArray} {L : List Tk} (hE : PEnv s wordsL L) (w : World) (rb k : Nat) (h : PAt w rb s L k) (m0 : isM L { data := #[102, 117, 110] } k (-1) = false) (m1 : isM L { data := #[105, 102] } k (-1) = false) (m2 : isM L { data := #[108, 101, 116] } k (-1) = false) (x : X) (k' : Nat) (bad' : Int)
    (hC : ∀ w1, PAt w1 rb s L k → Calls Tryz.prog 111 #[.agg #[.pointer (some ⟨rb, 0, none⟩)]] w1 fun e w' => PRet (QX w1 x) w1 rb s L k' bad' e w') :
    Calls Tryz.prog 75 #[.agg #[.pointer (some ⟨rb, 0, none⟩)]] w fun e w' => PRet (QX w x) w rb s L k' bad' e w' := by
  have hk0 : Kp (fun _ => False) w (w.alloc (.cells #[.pointer (some ⟨rb, 0, none⟩)] 174)) := (Kp.refl _ _).alloc _
  have hc0 : (w.alloc (.cells #[.pointer (some ⟨rb, 0, none⟩)] 174)).heap[w.heap.size]? = some (.cells #[.pointer (some ⟨rb, 0, none⟩)] 174 (0, 0)) := heap_alloc_new _ _
  have h0 : PAt (w.alloc (.cells #[.pointer (some ⟨rb, 0, none⟩)] 174)) rb s L k := h.kp hk0
  have hrl := h.lt'
  generalize hw0 : w.alloc (.cells #[.pointer (some ⟨rb, 0, none⟩)] 174) = w0 at *
  have a0 : w0.cell? ⟨w.heap.size, 0, none⟩ = some (.pointer (some ⟨rb, 0, none⟩)) := by simp [World.cell?, hc0]
  have HC : Hid _ := hC w0 h0
  have H0 : Hid _ := at_is hE h0 { data := #[102, 117, 110] } (.inl (by simp [wordsL]))
  rw [m0] at H0
  have H1 : Hid _ := at_is hE h0 { data := #[105, 102] } (.inl (by simp [wordsL]))
  rw [m1] at H1
  have H2 : Hid _ := at_is hE h0 { data := #[108, 101, 116] } (.inl (by simp [wordsL]))
  rw [m2] at H2
  clear hC h h0 m0 m1 m2
  go_enter Tryz.func75, Tryz.ntmps75
  go_wp2_with fail
  refine Calls.mono H0.out ?_
  rintro e w' ⟨rfl, hww⟩
  rw [hww]
  clear hww w'
  go_wp2_with fail
  refine Calls.mono H1.out ?_
  rintro e w' ⟨rfl, hww⟩
  rw [hww]
  clear hww w'
  go_wp2_with fail
  refine Calls.mono H2.out ?_
  rintro e w' ⟨rfl, hww⟩
  rw [hww]
  clear hww w'
  go_wp2_with fail
  refine Calls.mono HC.out ?_
  intro e w1 hres
  rcases hres.ways with ⟨T, u, he⟩ | ⟨b, he⟩
  · rw [he] at hres ⊢
    have HR : Hid _ := hres
    clear hres HC
    go_wp2
    go_ret
    exact PRet.lift (Kq.of_kp hk0 (fun _ z => z.elim)) HR.out
  · rw [he] at hres ⊢
    have HR : Hid _ := hres
    clear hres HC
    go_wp2
    exact ⟨rfl, PRet.lift (Kq.of_kp hk0 (fun _ z => z.elim)) HR.out⟩
set_option maxRecDepth 20000 in
set_option maxHeartbeats 1000000 in
theorem plrec_any {s : ByteArray} {L : List Tk} (hE : PEnv s wordsL L) (w : World) (rb k : Nat) (h : PAt w rb s L k) (hM : isM L { data := #[108, 101, 116] } k (-1) = true) (hR : isM L { data := #[114, 101, 99] } (k + 1) (-1) = true) (x : X) (k' : Nat) (bad' : Int) (hS : 0 ≤ bz L (k + 1) (-1) → bz L k' bad' = bz L (k + 1) (-1))
    (hC : ∀ w1, PAt w1 rb s L (k + 1) → Calls Tryz.prog 151 #[.agg #[.pointer (some ⟨rb, 0, none⟩)]] w1 fun e w' => PRet (QX w1 x) w1 rb s L k' bad' e w') :
    Calls Tryz.prog 110 #[.agg #[.pointer (some ⟨rb, 0, none⟩)]] w fun e w' => PRet (QX w x) w rb s L k' bad' e w' := by
  have hk0 : Kp (fun _ => False) w (w.alloc (.cells #[.pointer (some ⟨rb, 0, none⟩)] 174)) := (Kp.refl _ _).alloc _
  have hc0 : (w.alloc (.cells #[.pointer (some ⟨rb, 0, none⟩)] 174)).heap[w.heap.size]? = some (.cells #[.pointer (some ⟨rb, 0, none⟩)] 174 (0, 0)) := heap_alloc_new _ _
  have h0 : PAt (w.alloc (.cells #[.pointer (some ⟨rb, 0, none⟩)] 174)) rb s L k := h.kp hk0
  have hrl := h.lt'
  generalize hw0 : w.alloc (.cells #[.pointer (some ⟨rb, 0, none⟩)] 174) = w0 at *
  have a0 : w0.cell? ⟨w.heap.size, 0, none⟩ = some (.pointer (some ⟨rb, 0, none⟩)) := by simp [World.cell?, hc0]
  have C1 := px_expect hE h0 { data := #[108, 101, 116] } (.inl (by simp [wordsL])) (by decide) (by decide)
  rw [(need_true hM).1, (need_true hM).2] at C1
  have HC1 : Hid _ := C1
  have HS : Hid _ := hS
  have HCC : Hid _ := hC
  have HRR : Hid _ := hR
  clear hC h C1 hM hS hR
  go_enter Tryz.func110, Tryz.ntmps110
  go_wp2_with fail
  refine Calls.mono HC1.out ?_
  intro e w2 hres
  clear HC1
  by_cases hz : 0 ≤ bz L (k + 1) (-1)
  · obtain ⟨b, he, hx⟩ := hres.2 hz
    rw [he]
    clear he hres
    go_wp2
    exact ⟨rfl, PRet.up (Kq.of_kp hk0 (fun _ z => z.elim)) hz HS.out ⟨b, rfl, hx⟩⟩
  obtain ⟨_, v, he, hv, P2, kq⟩ := hres.1 (by omega)
  clear hz hres
  subst hv
  subst he
  have KK := (Kq.of_kp (S := (· = rb)) hk0 (fun _ z => z.elim)).trans kq
  have hc2 := (kq.block _ (lt_of_block hc0) (by show ¬ _; omega)).trans hc0
  have a2 : w2.cell? ⟨w.heap.size, 0, none⟩ = some (.pointer (some ⟨rb, 0, none⟩)) := by simp [World.cell?, hc2]
  have HI : Hid _ := at_is hE P2 { data := #[114, 101, 99] } (.inl (by simp [wordsL]))
  rw [HRR.out] at HI
  have HC : Hid _ := HCC.out w2 P2
  clear kq P2 HCC
  go_wp2_with fail
  refine Calls.mono HI.out ?_
  rintro e w' ⟨rfl, hww⟩
  rw [hww]
  clear hww w'
  go_wp2_with fail
  refine Calls.mono HC.out ?_
  intro e w1 hres
  rcases hres.ways with ⟨T, u, he⟩ | ⟨b, he⟩
  · rw [he] at hres ⊢
    have HR : Hid _ := hres
    clear hres HC
    go_wp2
    go_ret
    exact PRet.lift KK HR.out
  · rw [he] at hres ⊢
    have HR : Hid _ := hres
    clear hres HC
    go_wp2
    exact ⟨rfl, PRet.lift KK HR.out⟩
end Go.Proofs.YtleenphlgbklmabGreatDoor

namespace Go.Proofs.YtleenphlgbklmabGreatDoor
open Go.RowKit

/-- the program's reader of expressions does what the document's does. -/
theorem pread_all {s : ByteArray} {L : List Tk} (hE : PEnv s wordsL L) : ∀ n, SE s L n ∧ SA s L n := by
  intro n
  induction n using Nat.strongRecOn with
  | ind n ih =>
  cases n with
  | zero => exact ⟨fun w rb k x k' bad' _ h => by simp [expM] at h, fun w rb k x k' bad' _ h => by simp [atomM] at h⟩
  | succ n =>
  have hA := (ih n (by omega)).1
  refine ⟨?_, ?_⟩
  · intro w rb k x k' bad' h hM
    rw [expM, if_neg (by omega)] at hM
    cases hF : isM L { data := #[102, 117, 110] } k (-1)
    · simp only [hF, Bool.false_eq_true, if_false] at hM
      cases hI : isM L { data := #[105, 102] } k (-1)
      · simp only [hI, Bool.false_eq_true, if_false] at hM
        cases hL : isM L { data := #[108, 101, 116] } k (-1)
        · simp only [hL, Bool.false_eq_true, if_false] at hM
          obtain ⟨⟨x1, k1, b1⟩, h1, h2⟩ := Option.bind_eq_some_iff.1 hM
          exact pexp_atoms hE w rb k h hF hI hL x k' bad' (fun w1 p1 => patoms_any hE n (fun m hm => (ih m (by omega)).2) w1 rb k p1 x1 x k1 k' b1 bad' h1 h2)
        · simp only [hL, if_true] at hM
          cases hR : isM L { data := #[114, 101, 99] } (k + 1) (-1)
          · simp only [hR, Bool.false_eq_true, if_false] at hM
            obtain ⟨⟨ns, ks, k1, b1⟩, h1, h2⟩ := Option.bind_eq_some_iff.1 hM
            obtain ⟨⟨y, k2, b2⟩, h3, h4⟩ := Option.bind_eq_some_iff.1 h2
            simp only [Option.some.injEq, Prod.mk.injEq] at h4
            obtain ⟨rfl, rfl, rfl⟩ := h4
            cases n with
            | zero => simp [boundM] at h1
            | succ m =>
              simp only [boundM] at h1
              have e : dupB [] (tkAt L (k + 1)).s (tkAt L (k + 1)).loc (needB L { data := #[110, 97, 109, 101] } (k + 1) (-1)) = needB L { data := #[110, 97, 109, 101] } (k + 1) (-1) := by simp [dupB]
              rw [e] at h1
              obtain ⟨⟨x1, k3, b3⟩, h5, h6⟩ := Option.bind_eq_some_iff.1 h1
              simp only [Option.some.injEq, Prod.mk.injEq] at h6
              obtain ⟨rfl, rfl, rfl, rfl⟩ := h6
              exact pexp_let hE w rb k h hF hI hL _ _ _ (fun w1 p1 => plet_any hE (m + 1) m hA (ih m (by omega)).1 w1 rb k p1 hL hR x1 y k3 k2 b3 b2 h5 h3)
          · simp only [hR, if_true] at hM
            obtain ⟨⟨ns, ks, k1, b1⟩, h1, h2⟩ := Option.bind_eq_some_iff.1 hM
            obtain ⟨⟨ns2, ks2, k2, b2⟩, h3, h4⟩ := Option.bind_eq_some_iff.1 h2
            obtain ⟨⟨y, k3, b3⟩, h5, h6⟩ := Option.bind_eq_some_iff.1 h4
            simp only [Option.some.injEq, Prod.mk.injEq] at h6
            obtain ⟨rfl, rfl, rfl⟩ := h6
            refine pexp_let hE w rb k h hF hI hL _ _ _ (fun w1 p1 => plrec_any hE w1 rb k p1 hL hR _ _ _ (fun hz => ?_) (fun w2 p2 => prec_any hE n (fun m hm => (ih m (by omega)).1) w2 rb (k + 1) p2 hR ns ns2 ks ks2 y k1 k2 k3 b1 b2 b3 _ h1 h3 h5))
            rw [isM_bz hz (by decide)] at hR
            cases hR
      · simp only [hI, if_true] at hM
        obtain ⟨⟨x1, k1, b1⟩, h1, h2⟩ := Option.bind_eq_some_iff.1 hM
        obtain ⟨⟨x2, k2, b2⟩, h3, h4⟩ := Option.bind_eq_some_iff.1 h2
        obtain ⟨⟨x3, k3, b3⟩, h5, h6⟩ := Option.bind_eq_some_iff.1 h4
        simp only [Option.some.injEq, Prod.mk.injEq] at h6
        obtain ⟨rfl, rfl, rfl⟩ := h6
        exact pexp_if hE w rb k h hF hI _ _ _ (fun w1 p1 => pif_any hE n hA w1 rb k p1 hI x1 x2 x3 k1 k2 k3 b1 b2 b3 h1 h3 h5)
    · simp only [hF, if_true] at hM
      obtain ⟨⟨x1, k1, b1⟩, h1, h2⟩ := Option.bind_eq_some_iff.1 hM
      simp only [Option.some.injEq, Prod.mk.injEq] at h2
      obtain ⟨rfl, rfl, rfl⟩ := h2
      exact pexp_fun hE w rb k h hF _ _ _ (fun w1 p1 => pfun_any hE n hA w1 rb k p1 hF x1 k1 b1 h1)
  · intro w rb k x k' bad' h hM
    rw [atomM] at hM
    cases hN : isM L { data := #[110, 97, 109, 101] } k (-1)
    · cases hU : isM L { data := #[110, 117, 109] } k (-1)
      · simp only [hN, hU, Bool.or_false, Bool.false_eq_true, if_false] at hM
        obtain ⟨⟨x1, k1, b1⟩, h1, h2⟩ := Option.bind_eq_some_iff.1 hM
        simp only at h2
        cases hO : isM L { data := #[40] } k (-1)
        · rw [(need_false hO).1, (need_false hO).2] at h1
          have z0 : bz L k ((tkAt L k).loc : Int) = (tkAt L k).loc := bz_ge (by omega)
          have z1 := (stk L n).ex _ _ _ _ _ h1 (by rw [z0]; omega)
          rw [z0] at z1
          have hz1 : 0 ≤ bz L k1 b1 := by rw [z1]; omega
          rw [isM_bz hz1 (by decide)] at h2
          simp only [Bool.false_eq_true, if_false, Option.some.injEq, Prod.mk.injEq] at h2
          obtain ⟨rfl, rfl, rfl⟩ := h2
          exact patom_bad hE w rb k h hN hU hO _ _ _ ((need_bz' hz1 (by decide)).trans z1)
        · rw [(need_true hO).1, (need_true hO).2] at h1
          cases hC : isM L { data := #[44] } k1 b1
          · simp only [hC, Bool.false_eq_true, if_false, Option.some.injEq, Prod.mk.injEq] at h2
            obtain ⟨rfl, rfl, rfl⟩ := h2
            exact patom_br hE w rb k h hO _ _ _ (sticks (fun hz => (stk L n).ex _ _ _ _ _ h1 hz) (fun hz => need_bz' hz (by decide))) (fun w1 p1 => pbr1_any hE n hA w1 rb (k + 1) p1 x1 k1 b1 h1 hC)
          · simp only [hC, if_true] at h2
            obtain ⟨⟨x2, k2, b2⟩, h3, h4⟩ := Option.bind_eq_some_iff.1 h2
            simp only [Option.some.injEq, Prod.mk.injEq] at h4
            obtain ⟨rfl, rfl, rfl⟩ := h4
            refine patom_br hE w rb k h hO _ _ _ (fun hz => ?_) (fun w1 p1 => pbr2_any hE n hA w1 rb (k + 1) _ p1 x1 x2 k1 k2 b1 b2 h1 hC h3)
            have z1 := (stk L n).ex _ _ _ _ _ h1 hz
            rw [isM_bz (by rw [z1]; exact hz) (by decide)] at hC
            cases hC
      · simp only [hN, hU, Bool.false_or, if_true, Option.some.injEq, Prod.mk.injEq] at hM
        obtain ⟨rfl, rfl, rfl⟩ := hM
        rw [is_name hU]
        exact patom_num hE w rb k h hU
    · simp only [hN, Bool.true_or, if_true, Option.some.injEq, Prod.mk.injEq] at hM
      obtain ⟨rfl, rfl, rfl⟩ := hM
      rw [is_name hN]
      exact patom_name hE w rb k h hN
end Go.Proofs.YtleenphlgbklmabGreatDoor

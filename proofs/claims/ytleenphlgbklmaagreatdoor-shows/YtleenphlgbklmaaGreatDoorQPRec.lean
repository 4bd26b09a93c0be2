import Derived.Test.YtleenphlgbklmaaGreatDoorQPRdD
import Derived.Deep.LoopGhost
import Derived.Test.YtleenphlgbklmaaGreatDoorQTree
set_option linter.unusedVariables false
set_option linter.unusedSimpArgs false
namespace Go.Proofs.YtleenphlgbklmaaGreatDoor
open Go.RowKit

set_option maxRecDepth 20000 in
set_option maxHeartbeats 1000000 in
theorem patoms_any {s : ByteArray} {L : List Tk} (hE : PEnv s wordsL L) (n : Nat) (hA : ∀ m, m ≤ n → SA s L m) (w : World) (rb k : Nat) (h : PAt w rb s L k) (x1 x : X) (K1 K2 : Nat) (B1 B2 : Int)
    (hX : atomM L n k (-1) = some (x1, K1, B1)) (hY : appM L n x1 K1 B1 = some (x, K2, B2)) :
    Calls Tryz.prog 133 #[.agg #[.pointer (some ⟨rb, 0, none⟩)]] w fun e w' => PRet (QX w x) w rb s L K2 B2 e w' := by
  have hk0 : Kp (fun _ => False) w (w.alloc (.cells #[.pointer (some ⟨rb, 0, none⟩)] 178)) := (Kp.refl _ _).alloc _
  have hc0 : (w.alloc (.cells #[.pointer (some ⟨rb, 0, none⟩)] 178)).heap[w.heap.size]? = some (.cells #[.pointer (some ⟨rb, 0, none⟩)] 178 (0, 0)) := heap_alloc_new _ _
  have h0 : PAt (w.alloc (.cells #[.pointer (some ⟨rb, 0, none⟩)] 178)) rb s L k := h.kp hk0
  have hrl := h.lt'
  generalize hw0 : w.alloc (.cells #[.pointer (some ⟨rb, 0, none⟩)] 178) = w0 at *
  have a0 : w0.cell? ⟨w.heap.size, 0, none⟩ = some (.pointer (some ⟨rb, 0, none⟩)) := by simp [World.cell?, hc0]
  have HB : Hid (PB L) := hE.pb
  have HA : Hid _ := hA
  have HC : Hid _ := hA n (Nat.le_refl _) _ _ _ _ _ _ h0 hX
  have HX : Hid _ := hX
  have HY : Hid _ := hY
  clear hA hX hY h
  go_enter Tryz.func133, Tryz.ntmps133
  go_wp2_with fail
  refine Calls.mono HC.out ?_
  intro e w1 hres
  clear HC
  by_cases hz : 0 ≤ bz L K1 B1
  · obtain ⟨b, he, hx⟩ := hres.2 hz
    rw [he]
    clear he hres
    go_wp2
    exact ⟨rfl, PRet.up (Kq.of_kp hk0 (fun _ z => z.elim)) hz (fun hz => (stk L n).ap _ _ _ _ _ _ HY.out hz) ⟨b, rfl, hx⟩⟩
  obtain ⟨hb, v, he, hv, P1, kq⟩ := hres.1 (by omega)
  clear hz hres
  have KK1 := (Kq.of_kp (S := (· = rb)) hk0 (fun _ z => z.elim)).trans kq
  have hc1 := (kq.block _ (lt_of_block hc0) (by show ¬ _; omega)).trans hc0
  have X1 : PX w1 (fun b => w.heap.size ≤ b) x1 v := hv.mono (fun b h1 _ => Nat.le_trans hk0.size h1)
  obtain ⟨T1, u1, rfl⟩ := hv.iface
  subst he
  subst hb
  have hm1 := (made L HB.out.sz n).a _ _ _ _ _ HX.out (by omega)
  clear hv HX
  go_wp2_with fail
  go_loopg [3] n (fun m v wr => ∃ (y : X) (Ky : Nat) (T : TypeId) (u : Value), v = .iface T u ∧ Hid (appM L m y Ky (-1) = some (x, K2, B2)) ∧ PX wr (fun b => w.heap.size ≤ b) y (.iface T u) ∧ PAt wr rb s L Ky ∧ Kq (· = rb) w wr ∧ wr.heap[w.heap.size]? = some (.cells #[.pointer (some ⟨rb, 0, none⟩)] 178 (0, 0)) ∧ tw y + 56 ≤ 400 * Ky ∧ m ≤ n)
  case atStart => exact ⟨x1, K1, T1, u1, rfl, HY, X1, P1, KK1, hc1, by omega, Nat.le_refl _⟩
  case round =>
    obtain ⟨y, Ky, T, u, rfl, HM, XY, PY, KY, hcy, hty, hmn⟩ := hrel
    clear X1 P1 KK1 hc1 HY hm1 kq
    have ay : wr.cell? ⟨w.heap.size, 0, none⟩ = some (.pointer (some ⟨rb, 0, none⟩)) := by simp [World.cell?, hcy]
    cases gk with
    | zero =>
      have := HM.out
      simp [appM] at this
    | succ m =>
    have HT : Hid _ := patatom hE PY
    cases hc : (isM L { data := #[110, 97, 109, 101] } Ky (-1) || isM L { data := #[110, 117, 109] } Ky (-1) || isM L { data := #[40] } Ky (-1))
    · have q := HM.out
      rw [appM, hc] at q
      simp only [Bool.false_eq_true, if_false, Option.some.injEq, Prod.mk.injEq] at q
      obtain ⟨rfl, rfl, rfl⟩ := q
      rw [hc] at HT
      clear HM hc
      go_wp2_with fail
      refine Calls.mono HT.out ?_
      rintro e w2 ⟨rfl, hk2⟩
      have FX : Hid (PRet (QX w y) w rb s L Ky (-1) (.returned (.iface T u)) w2) := PRet.ret (Q := QX w y) (XY.kp hk2) (PY.kp hk2) (KY.trans (Kq.of_kp hk2 (fun _ z => z.elim)))
      clear HT
      go_wp2
      go_ret
      exact FX.out
    · have q := HM.out
      rw [appM, hc] at q
      simp only [if_true] at q
      obtain ⟨⟨z, Kz, Bz⟩, q1, q2⟩ := Option.bind_eq_some_iff.1 q
      simp only at q2
      rw [hc] at HT
      have Q1 : Hid _ := q1
      have Q2 : Hid _ := q2
      clear HM hc q q1 q2
      go_wp2_with fail
      refine Calls.mono HT.out ?_
      rintro e w2 ⟨rfl, hk2⟩
      have P2 := PY.kp hk2
      have KK2 := KY.trans (Kq.of_kp (S := (· = rb)) hk2 (fun _ z => z.elim))
      have Y2 := XY.kp hk2
      have hc2 := hk2.blk hcy (fun z => z)
      have a2 : w2.cell? ⟨w.heap.size, 0, none⟩ = some (.pointer (some ⟨rb, 0, none⟩)) := by simp [World.cell?, hc2]
      have HC : Hid _ := HA.out m (by omega) _ _ _ _ _ _ P2 Q1.out
      clear HT
      go_wp2_with fail
      refine Calls.mono HC.out ?_
      intro e w3 hres
      clear HC
      by_cases hz : 0 ≤ bz L Kz Bz
      · obtain ⟨b, he, hx⟩ := hres.2 hz
        rw [he]
        clear he hres
        go_wp2
        exact ⟨rfl, PRet.up KK2 hz (fun hz => (stk L m).ap _ _ _ _ _ _ Q2.out hz) ⟨b, rfl, hx⟩⟩
      obtain ⟨hb, v, he, hv, P3, kq⟩ := hres.1 (by omega)
      clear hz hres
      have KK3 := KK2.trans kq
      have hc3 := (kq.block _ (lt_of_block hc2) (by show ¬ _; omega)).trans hc2
      have Z3 : PX w3 (fun b => w.heap.size ≤ b) z v := hv.mono (fun b h1 _ => Nat.le_trans KK2.size h1)
      obtain ⟨T4, u4, rfl⟩ := hv.iface
      have Y3 := Y2.kq (fun b h1 => by have h1 : w.heap.size ≤ b := h1; omega) kq
      subst he
      subst hb
      have hma := ((made L HB.out.sz m).a _ _ _ _ _ Q1.out (by omega)).2.2
      have hlen := HB.out.len
      have hl3 := P3.lt
      have hdy := dp_tw y
      have hdz := dp_tw z
      have HV : Hid _ := above2 Y3 Z3 (by omega) (by omega)
      have htn : tw (.mk { data := #[97, 112, 112] } [] [y, z] y.loc) + 56 ≤ 400 * Kz := by
        have e : tw (.mk { data := #[97, 112, 112] } [] [y, z] y.loc) = (tw y + 16 + (tw z + 16)) + 16 := by simp [tw, tws]
        rw [e]
        omega
      clear hv Y2 hdy hdz
      go_wp2_with fail
      refine Calls.mono HV.out ?_
      rintro e wfp ⟨rfl, hkf⟩
      have KF := KK3.trans (Kq.of_kp (S := (· = rb)) hkf (fun _ z => z.elim))
      have hkg : Kp (fun _ => False) wfp (wfp.alloc (.cells #[.int .i64 (((max (dp y) (dp z) : Nat) : Int) + 1), .iface T u, .iface T4 u4] 280)) := (Kp.refl _ _).alloc _
      have hbg : (wfp.alloc (.cells #[.int .i64 (((max (dp y) (dp z) : Nat) : Int) + 1), .iface T u, .iface T4 u4] 280)).heap[wfp.heap.size]? = some (.cells #[.int .i64 (((max (dp y) (dp z) : Nat) : Int) + 1), .iface T u, .iface T4 u4] 280 (0, 0)) := heap_alloc_new _ _
      have hcg := hkg.blk (hkf.blk hc3 (fun z => z)) (fun z => z)
      have XG : PX (wfp.alloc (.cells #[.int .i64 (((max (dp y) (dp z) : Nat) : Int) + 1), .iface T u, .iface T4 u4] 280)) (fun b => w.heap.size ≤ b) (.mk { data := #[97, 112, 112] } [] [y, z] y.loc) (.iface 276 (.pointer (some ⟨wfp.heap.size, 0, none⟩))) := PX.app _ _ _ _ _ _ KF.size hbg ((Y3.kp hkf).kp hkg) ((Z3.kp hkf).kp hkg)
      have PG := (P3.kp hkf).kp hkg
      have KG := KF.trans (Kq.of_kp (S := (· = rb)) hkg (fun _ z => z.elim))
      clear HV hkg hbg Z3 Y3
      go_wp2
      go_roundg m
      case measure => omega
      case rel => exact ⟨_, _, _, _, rfl, Q2, XG, PG, KG, hcg, htn, by omega⟩
end Go.Proofs.YtleenphlgbklmaaGreatDoor

namespace Go.Proofs.YtleenphlgbklmaaGreatDoor
open Go.RowKit

/-- within a let rec: the names and what they are, so far. -/
structure RecSt (w wr : World) (rb : Nat) (s : ByteArray) (L : List Tk) (names : List ByteArray) (kids : List X) (nv vv : Value) (ps : List Value) (K : Nat) : Prop where
  nm : wr.ownsRow w.heap.size 9 1 nv names.length (names.map Value.string)
  vl : wr.ownsRow w.heap.size 130 1 vv ps.length ps
  ln : ps.length = kids.length
  px : ∀ (j : Nat) (x : X) (p : Value), kids[j]? = some x → ps[j]? = some p → PX wr (fun b => w.heap.size ≤ b ∧ nv.ownBlock ≠ some b ∧ vv.ownBlock ≠ some b) x p
  at' : PAt wr rb s L K
  kq : Kq (· = rb) w wr
  rc : wr.heap[w.heap.size]? = some (.cells #[.pointer (some ⟨rb, 0, none⟩)] 178 (0, 0))
  wd : ∀ m, m ∈ names → Wd m
  rl : rb < w.heap.size
  db : dps kids ≤ 200000
theorem row_own {w : World} {B : Nat} {e : TypeId} {v : Value} {n : Nat} {xs : List Value} (h : w.ownsRow B e 1 v n xs) {g : Nat} (hg : v.ownBlock = some g) : B ≤ g ∧ g < w.heap.size ∧ ∃ cs f, w.heap[g]? = some (.cells cs e f) := by
  rcases h.2 with ⟨rfl, _⟩ | ⟨g', cap, cur, h1, h2, h3, h4⟩
  · cases hg
  · subst h1
    cases hg
    exact ⟨h2, lt_of_block h3, _, _, h3⟩
section
variable {w wr w' : World} {rb : Nat} {s : ByteArray} {L : List Tk} {names : List ByteArray} {kids : List X} {nv vv : Value} {ps : List Value} {K K' : Nat}
theorem RecSt.move (h : RecSt w wr rb s L names kids nv vv ps K) (k : Kq (· = rb) wr w') (p : PAt w' rb s L K') : RecSt w w' rb s L names kids nv vv ps K' := by
  have hb : ∀ b, w.heap.size ≤ b → b < wr.heap.size → w'.heap[b]? = wr.heap[b]? := fun b h1 h2 => k.block b h2 (fun z => by have z : b = rb := z; have := h.rl; omega)
  refine ⟨?_, ?_, h.ln, fun j x p h1 h2 => (h.px j x p h1 h2).keep (fun b hP hl => hb b hP.1 hl), p, h.kq.trans k, (hb _ (Nat.le_refl _) (lt_of_block h.rc)).trans h.rc, h.wd, h.rl, h.db⟩
  · exact row_same (P := fun b => w.heap.size ≤ b) (fun b h1 h2 => hb b h1 h2) (fun g hg => (row_own h.nm hg).1) h.nm
  · exact row_same (P := fun b => w.heap.size ≤ b) (fun b h1 h2 => hb b h1 h2) (fun g hg => (row_own h.vl hg).1) h.vl
theorem kinds_ne {e1 e2 : TypeId} {B : Nat} {v1 v2 : Value} {n1 n2 : Nat} {x1 x2 : List Value} (h1 : wr.ownsRow B e1 1 v1 n1 x1) (h2 : wr.ownsRow B e2 1 v2 n2 x2) (hne : e1 ≠ e2) {g : Nat} (hg : v1.ownBlock = some g) : v2.ownBlock ≠ some g := fun h => by
  obtain ⟨_, _, cs, f, a⟩ := row_own h1 hg
  obtain ⟨_, _, cs2, f2, b⟩ := row_own h2 h
  rw [a] at b
  simp only [Option.some.injEq, Obj.cells.injEq] at b
  exact hne b.2.1
/-- a name more. -/
theorem RecSt.name (h : RecSt w wr rb s L names kids nv vv ps K) (t : ByteArray) (ht : Wd t) (o : Obj) {g cap : Nat} (hown : w'.ownsRow w.heap.size 9 1 (.slice (some ⟨g, 0, none⟩) (names.length + 1) cap) (names.length + 1) (names.map Value.string ++ [.string t])) (hg : (wr.alloc o).grownBy w' nv.ownBlock) (hfr : some g = nv.ownBlock ∨ (wr.alloc o).heap.size ≤ g) :
    RecSt w w' rb s L (names ++ [t]) kids (.slice (some ⟨g, 0, none⟩) (names.length + 1) cap) vv ps K ∧ wr.heap.size ≤ w'.heap.size := by
  have hal : ∀ b, b < wr.heap.size → (wr.alloc o).heap[b]? = wr.heap[b]? := fun b hb => Below.heap_alloc _ _ _ hb
  have hb : ∀ b, b < wr.heap.size → nv.ownBlock ≠ some b → w'.heap[b]? = wr.heap[b]? := fun b h1 h2 => (hg.block b (by simp; omega) (fun z => h2 z.symm)).trans (hal b h1)
  have hrn : ∀ b, b < w.heap.size → nv.ownBlock ≠ some b := fun b hlt z => by have := (row_own h.nm z).1; omega
  have hsz : wr.heap.size ≤ w'.heap.size := Nat.le_trans (by simp) hg.size
  have hgn : ∀ b, b < wr.heap.size → nv.ownBlock ≠ some b → (Value.slice (some ⟨g, 0, none⟩) (names.length + 1) cap).ownBlock ≠ some b := fun b h1 h2 z => by
    have z : some g = some b := z
    cases z
    rcases hfr with e | e
    · exact h2 e.symm
    · simp at e; omega
  refine ⟨⟨by simpa using hown, ?_, h.ln, fun j x p h1 h2 => ?_, ?_, ?_, ?_, ?_, h.rl, h.db⟩, hsz⟩
  · exact row_same (P := fun b => nv.ownBlock ≠ some b) (fun b h1 h2 => hb b h2 h1) (fun g hg => kinds_ne h.vl h.nm (by decide) hg) h.vl
  · have q := (h.px j x p h1 h2).mono (Q := fun b => (w.heap.size ≤ b ∧ nv.ownBlock ≠ some b ∧ vv.ownBlock ≠ some b) ∧ (Value.slice (some ⟨g, 0, none⟩) (names.length + 1) cap).ownBlock ≠ some b) (fun b hP hl => ⟨hP, hgn b hl hP.2.1⟩)
    exact (q.keep (w' := w') (fun b hP hl => hb b hl hP.1.2.1)).mono (fun b hP _ => ⟨hP.1.1, hP.2, hP.1.2.2⟩)
  · obtain ⟨kd, e1, e2⟩ := h.at'.ex
    exact ⟨⟨kd, (hb rb (lt_of_block e1) (hrn rb h.rl)).trans e1, e2⟩, h.at'.lt, h.at'.nn⟩
  · exact ⟨hg.os.trans h.kq.os, hg.output.trans h.kq.output, Nat.le_trans h.kq.size hsz, fun b h1 h2 => (hb b (Nat.lt_of_lt_of_le h1 h.kq.size) (hrn b h1)).trans (h.kq.block b h1 h2)⟩
  · refine (hb _ (lt_of_block h.rc) (fun z => ?_)).trans h.rc
    obtain ⟨_, _, cs, f, a⟩ := row_own h.nm z
    rw [h.rc] at a
    simp only [Option.some.injEq, Obj.cells.injEq] at a
    exact absurd a.2.1 (by decide)
  · intro m hm
    rcases List.mem_append.1 hm with hm | hm
    · exact h.wd m hm
    · simp at hm; rw [hm]; exact ht
/-- what it is. -/
theorem RecSt.value (h : RecSt w wr rb s L names kids nv vv ps K) (x : X) (p : Value) (hx : PX wr (fun b => w.heap.size ≤ b ∧ nv.ownBlock ≠ some b ∧ vv.ownBlock ≠ some b) x p) (o : Obj) {g cap : Nat} (hown : w'.ownsRow w.heap.size 130 1 (.slice (some ⟨g, 0, none⟩) (ps.length + 1) cap) (ps.length + 1) (ps ++ [p])) (hg : (wr.alloc o).grownBy w' vv.ownBlock) (hfr : some g = vv.ownBlock ∨ (wr.alloc o).heap.size ≤ g) (hd : Go.Proofs.YtleenphlgbklmaaGreatDoor.dp x ≤ 200000) :
    RecSt w w' rb s L names (kids ++ [x]) nv (.slice (some ⟨g, 0, none⟩) (ps.length + 1) cap) (ps ++ [p]) K ∧ wr.heap.size ≤ w'.heap.size := by
  have hal : ∀ b, b < wr.heap.size → (wr.alloc o).heap[b]? = wr.heap[b]? := fun b hb => Below.heap_alloc _ _ _ hb
  have hb : ∀ b, b < wr.heap.size → vv.ownBlock ≠ some b → w'.heap[b]? = wr.heap[b]? := fun b h1 h2 => (hg.block b (by simp; omega) (fun z => h2 z.symm)).trans (hal b h1)
  have hrn : ∀ b, b < w.heap.size → vv.ownBlock ≠ some b := fun b hlt z => by have := (row_own h.vl z).1; omega
  have hsz : wr.heap.size ≤ w'.heap.size := Nat.le_trans (by simp) hg.size
  have hgn : ∀ b, b < wr.heap.size → vv.ownBlock ≠ some b → (Value.slice (some ⟨g, 0, none⟩) (ps.length + 1) cap).ownBlock ≠ some b := fun b h1 h2 z => by
    have z : some g = some b := z
    cases z
    rcases hfr with e | e
    · exact h2 e.symm
    · simp at e; omega
  have mv : ∀ {y q}, PX wr (fun b => w.heap.size ≤ b ∧ nv.ownBlock ≠ some b ∧ vv.ownBlock ≠ some b) y q → PX w' (fun b => w.heap.size ≤ b ∧ nv.ownBlock ≠ some b ∧ (Value.slice (some ⟨g, 0, none⟩) (ps.length + 1) cap).ownBlock ≠ some b) y q := fun hp => by
    have q := hp.mono (Q := fun b => (w.heap.size ≤ b ∧ nv.ownBlock ≠ some b ∧ vv.ownBlock ≠ some b) ∧ (Value.slice (some ⟨g, 0, none⟩) (ps.length + 1) cap).ownBlock ≠ some b) (fun b hP hl => ⟨hP, hgn b hl hP.2.2⟩)
    exact (q.keep (w' := w') (fun b hP hl => hb b hl hP.1.2.2)).mono (fun b hP _ => ⟨hP.1.1, hP.1.2.1, hP.2⟩)
  refine ⟨⟨?_, by simpa using hown, by simp [h.ln], fun j y q h1 h2 => ?_, ?_, ?_, ?_, h.wd, h.rl, ?_⟩, hsz⟩
  · exact row_same (P := fun b => vv.ownBlock ≠ some b) (fun b h1 h2 => hb b h2 h1) (fun g hg => kinds_ne h.nm h.vl (by decide) hg) h.nm
  · by_cases hj : j < kids.length
    · rw [List.getElem?_append_left hj] at h1
      rw [List.getElem?_append_left (by rw [h.ln]; exact hj)] at h2
      exact mv (h.px j y q h1 h2)
    · rw [List.getElem?_append_right (by omega)] at h1
      rw [List.getElem?_append_right (by rw [h.ln]; omega)] at h2
      have e : j - kids.length = 0 := by
        have := (List.getElem?_eq_some_iff.1 h1).1
        simp at this
        omega
      rw [h.ln] at h2
      rw [e] at h1 h2
      simp at h1 h2
      subst h1
      subst h2
      exact mv hx
  · obtain ⟨kd, e1, e2⟩ := h.at'.ex
    exact ⟨⟨kd, (hb rb (lt_of_block e1) (hrn rb h.rl)).trans e1, e2⟩, h.at'.lt, h.at'.nn⟩
  · exact ⟨hg.os.trans h.kq.os, hg.output.trans h.kq.output, Nat.le_trans h.kq.size hsz, fun b h1 h2 => (hb b (Nat.lt_of_lt_of_le h1 h.kq.size) (hrn b h1)).trans (h.kq.block b h1 h2)⟩
  · refine (hb _ (lt_of_block h.rc) (fun z => ?_)).trans h.rc
    obtain ⟨_, _, cs, f, a⟩ := row_own h.vl z
    rw [h.rc] at a
    simp only [Option.some.injEq, Obj.cells.injEq] at a
    exact absurd a.2.1 (by decide)
  · rw [dps_append]
    have := h.db
    omega
end
end Go.Proofs.YtleenphlgbklmaaGreatDoor

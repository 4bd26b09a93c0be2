import Derived.Test.YtleenphlgbklmabGreatDoorZPVar
set_option linter.unusedVariables false
set_option linter.unusedSimpArgs false
namespace Go.Proofs.YtleenphlgbklmabGreatDoor
open Go.RowKit

/-- a type of the program: vb: the variables' blocks, by number. -/
inductive PTy (w : World) (vb : List Nat) : Ty → Value → Prop
  | var (n b : Nat) : vb[n]? = some b → PTy w vb (.mk { data := #[] } n []) (.iface 124 (.pointer (some ⟨b, 0, none⟩)))
  | base (kd : ByteArray) : kd = { data := #[105, 110, 116] } ∨ kd = { data := #[98, 111, 111, 108] } → PTy w vb (.mk kd 0 []) (.iface 271 (.agg #[.string kd]))
  | list (a : Ty) (b : Nat) (p : Value) : w.heap[b]? = some (.cells #[.nilIface, p] 152 (0, 0)) → PTy w vb a p → PTy w vb (.mk { data := #[108, 105, 115, 116] } 0 [a]) (.iface 149 (.pointer (some ⟨b, 0, none⟩)))
  | pair (a c : Ty) (b : Nat) (p q : Value) : w.heap[b]? = some (.cells #[.nilIface, p, q] 156 (0, 0)) → PTy w vb a p → PTy w vb c q → PTy w vb (.mk { data := #[112, 97, 105, 114] } 0 [a, c]) (.iface 153 (.pointer (some ⟨b, 0, none⟩)))
  | fn (a c : Ty) (b : Nat) (p q : Value) : w.heap[b]? = some (.cells #[.nilIface, p, q] 160 (0, 0)) → PTy w vb a p → PTy w vb c q → PTy w vb (.mk { data := #[102, 117, 110] } 0 [a, c]) (.iface 157 (.pointer (some ⟨b, 0, none⟩)))
/-- every block of the program's types is as it was. -/
def PKeep (w w' : World) : Prop := ∀ (k : Nat) (cs : Array Value) (e : TypeId) (f : Nat × Nat), e = 152 ∨ e = 156 ∨ e = 160 → w.heap[k]? = some (.cells cs e f) → w'.heap[k]? = some (.cells cs e f)
theorem PKeep.trans {a b c : World} (h : PKeep a b) (k : PKeep b c) : PKeep a c := fun q cs e f he hq => k q cs e f he (h q cs e f he hq)
theorem PKeep.kept {w w' : World} (h : Kept w w') : PKeep w w' := fun _ _ _ _ _ hk => h.blk hk
theorem PKeep.kp {S : Nat → Prop} {w w' : World} (h : Kp S w w') (hS : ∀ k, S k → ∀ cs e f, w.heap[k]? = some (.cells cs e f) → e ≠ 152 ∧ e ≠ 156 ∧ e ≠ 160) : PKeep w w' := fun k cs e f he hk =>
  h.blk hk (fun s => by have := hS k s cs e f hk; rcases he with rfl | rfl | rfl; exact this.1 rfl; exact this.2.1 rfl; exact this.2.2 rfl)
theorem PKeep.rd {w w' : World} {rb : Nat} {s : ByteArray} {kd i : Nat} {x : ByteArray} (h : PRd w rb s kd i x) (g : Kp (· = rb) w w') : PKeep w w' := PKeep.kp g (fun q hq cs e f hc => by
  have hq : q = rb := hq
  subst hq
  have h : w.heap[q]? = some (.cells #[.string s, .int .i64 kd, .int .i64 i, .string x] 191 (0, 0)) := h
  rw [h] at hc
  simp at hc
  obtain ⟨_, rfl, _⟩ := hc
  decide)
theorem PKeep.vm {w w' : World} {mb : Nat} {names : List ByteArray} {vb : List Nat} (h : VM w mb names vb) (g : Kp (· = mb) w w') : PKeep w w' := PKeep.kp g (fun q hq cs e f hc => by
  have hq : q = mb := hq
  subst hq
  rw [h.mp] at hc
  cases hc)
theorem PTy.keep {w w' : World} {vb : List Nat} (hk : PKeep w w') {t : Ty} {v : Value} (h : PTy w vb t v) : PTy w' vb t v := by
  induction h with
  | var n b hb => exact .var n b hb
  | base kd h => exact .base kd h
  | list a b p hb _ ih => exact .list a b p (hk b _ 152 (0, 0) (.inl rfl) hb) ih
  | pair a c b p q hb _ _ ih ih2 => exact .pair a c b p q (hk b _ 156 (0, 0) (.inr (.inl rfl)) hb) ih ih2
  | fn a c b p q hb _ _ ih ih2 => exact .fn a c b p q (hk b _ 160 (0, 0) (.inr (.inr rfl)) hb) ih ih2
theorem PTy.iface {w : World} {vb : List Nat} {t : Ty} {v : Value} (h : PTy w vb t v) : ∃ T u, v = .iface T u := by
  cases h <;> exact ⟨_, _, rfl⟩

/-- a type that was read: its nodes lie in order, between lo and hi. -/
inductive PTyR (w : World) (vb : List Nat) : Nat → Nat → Ty → Value → Prop
  | var (n b lo hi : Nat) : lo ≤ hi → vb[n]? = some b → PTyR w vb lo hi (.mk { data := #[] } n []) (.iface 124 (.pointer (some ⟨b, 0, none⟩)))
  | base (kd : ByteArray) (lo hi : Nat) : lo ≤ hi → kd = { data := #[105, 110, 116] } ∨ kd = { data := #[98, 111, 111, 108] } → PTyR w vb lo hi (.mk kd 0 []) (.iface 271 (.agg #[.string kd]))
  | list (a : Ty) (b : Nat) (p : Value) (lo m hi : Nat) : w.heap[b]? = some (.cells #[.nilIface, p] 152 (0, 0)) → PTyR w vb lo m a p → m ≤ b → b < hi → PTyR w vb lo hi (.mk { data := #[108, 105, 115, 116] } 0 [a]) (.iface 149 (.pointer (some ⟨b, 0, none⟩)))
  | pair (a c : Ty) (b : Nat) (p q : Value) (lo m k hi : Nat) : w.heap[b]? = some (.cells #[.nilIface, p, q] 156 (0, 0)) → PTyR w vb lo m a p → PTyR w vb m k c q → k ≤ b → b < hi → PTyR w vb lo hi (.mk { data := #[112, 97, 105, 114] } 0 [a, c]) (.iface 153 (.pointer (some ⟨b, 0, none⟩)))
  | fn (a c : Ty) (b : Nat) (p q : Value) (lo m k hi : Nat) : w.heap[b]? = some (.cells #[.nilIface, p, q] 160 (0, 0)) → PTyR w vb lo m a p → PTyR w vb m k c q → k ≤ b → b < hi → PTyR w vb lo hi (.mk { data := #[102, 117, 110] } 0 [a, c]) (.iface 157 (.pointer (some ⟨b, 0, none⟩)))
theorem PTyR.ty {w : World} {vb : List Nat} {lo hi : Nat} {t : Ty} {v : Value} (h : PTyR w vb lo hi t v) : PTy w vb t v := by
  induction h with
  | var n b lo hi _ hb => exact .var n b hb
  | base kd lo hi _ h => exact .base kd h
  | list a b p lo m hi hb _ _ _ ih => exact .list a b p hb ih
  | pair a c b p q lo m k hi hb _ _ _ _ ih ih2 => exact .pair a c b p q hb ih ih2
  | fn a c b p q lo m k hi hb _ _ _ _ ih ih2 => exact .fn a c b p q hb ih ih2
theorem PTyR.keep {w w' : World} {vb : List Nat} (hk : PKeep w w') {lo hi : Nat} {t : Ty} {v : Value} (h : PTyR w vb lo hi t v) : PTyR w' vb lo hi t v := by
  induction h with
  | var n b lo hi h1 hb => exact .var n b lo hi h1 hb
  | base kd lo hi h1 h => exact .base kd lo hi h1 h
  | list a b p lo m hi hb _ h1 h2 ih => exact .list a b p lo m hi (hk b _ 152 (0, 0) (.inl rfl) hb) ih h1 h2
  | pair a c b p q lo m k hi hb _ _ h1 h2 ih ih2 => exact .pair a c b p q lo m k hi (hk b _ 156 (0, 0) (.inr (.inl rfl)) hb) ih ih2 h1 h2
  | fn a c b p q lo m k hi hb _ _ h1 h2 ih ih2 => exact .fn a c b p q lo m k hi (hk b _ 160 (0, 0) (.inr (.inr rfl)) hb) ih ih2 h1 h2
theorem PTyR.up {w : World} {vb : List Nat} (u : List Nat) {lo hi : Nat} {t : Ty} {v : Value} (h : PTyR w vb lo hi t v) : PTyR w (vb ++ u) lo hi t v := by
  induction h with
  | var n b lo hi h1 hb => exact .var n b lo hi h1 (by rw [List.getElem?_append_left (List.getElem?_eq_some_iff.1 hb).1]; exact hb)
  | base kd lo hi h1 h => exact .base kd lo hi h1 h
  | list a b p lo m hi hb _ h1 h2 ih => exact .list a b p lo m hi hb ih h1 h2
  | pair a c b p q lo m k hi hb _ _ h1 h2 ih ih2 => exact .pair a c b p q lo m k hi hb ih ih2 h1 h2
  | fn a c b p q lo m k hi hb _ _ h1 h2 ih ih2 => exact .fn a c b p q lo m k hi hb ih ih2 h1 h2
theorem PTyR.wide {w : World} {vb : List Nat} {lo hi : Nat} {t : Ty} {v : Value} (h : PTyR w vb lo hi t v) : ∀ {lo' hi' : Nat}, lo' ≤ lo → hi ≤ hi' → PTyR w vb lo' hi' t v := by
  induction h with
  | var n b lo hi h1 hb => intro lo' hi' g1 g2; exact .var n b lo' hi' (by omega) hb
  | base kd lo hi h1 h => intro lo' hi' g1 g2; exact .base kd lo' hi' (by omega) h
  | list a b p lo m hi hb _ h1 h2 ih => intro lo' hi' g1 g2; exact .list a b p lo' m hi' hb (ih g1 (Nat.le_refl _)) h1 (by omega)
  | pair a c b p q lo m k hi hb _ h3 h1 h2 ih ih2 => intro lo' hi' g1 g2; exact .pair a c b p q lo' m k hi' hb (ih g1 (Nat.le_refl _)) h3 h1 (by omega)
  | fn a c b p q lo m k hi hb _ h3 h1 h2 ih ih2 => intro lo' hi' g1 g2; exact .fn a c b p q lo' m k hi' hb (ih g1 (Nat.le_refl _)) h3 h1 (by omega)
theorem PTyR.le {w : World} {vb : List Nat} {lo hi : Nat} {t : Ty} {v : Value} (h : PTyR w vb lo hi t v) : lo ≤ hi := by
  induction h with
  | var n b lo hi h1 hb => exact h1
  | base kd lo hi h1 h => exact h1
  | list a b p lo m hi hb _ h1 h2 ih => omega
  | pair a c b p q lo m k hi hb _ h3 h1 h2 ih ih2 => omega
  | fn a c b p q lo m k hi hb _ h3 h1 h2 ih ih2 => omega
theorem PTyR.iface {w : World} {vb : List Nat} {lo hi : Nat} {t : Ty} {v : Value} (h : PTyR w vb lo hi t v) : ∃ T u, v = .iface T u := h.ty.iface
/-- behind the reader of types: a type, the place, the names; or thrown, where the fault is. -/
structure PEnd (w w' : World) (rb mb : Nat) (s : ByteArray) (L : List Tk) (k' : Nat) (names' : List ByteArray) (vb vb' : List Nat) : Prop where
  at' : PAt w' rb s L k'
  vm : VM w' mb names' vb'
  pre : ∃ u, vb' = vb ++ u ∧ ∀ c, c ∈ u → w.heap.size ≤ c
  pk : PKeep w w'
  kp : Kq (fun q => q = rb ∨ q = mb) w w'
theorem pre_mono {w w0 : World} {vb vb' : List Nat} (h : ∃ u, vb' = vb ++ u ∧ ∀ c, c ∈ u → w.heap.size ≤ c) (hs : w0.heap.size ≤ w.heap.size) : ∃ u, vb' = vb ++ u ∧ ∀ c, c ∈ u → w0.heap.size ≤ c := by
  obtain ⟨u, h1, h2⟩ := h
  exact ⟨u, h1, fun c hc => Nat.le_trans hs (h2 c hc)⟩
theorem pre_app {a b c : List Nat} {u v : List Nat} {m n k : Nat} (h1 : b = a ++ u) (h2 : ∀ x, x ∈ u → m ≤ x) (g1 : c = b ++ v) (g2 : ∀ x, x ∈ v → n ≤ x) (hm : k ≤ m) (hn : k ≤ n) : ∃ u, c = a ++ u ∧ ∀ x, x ∈ u → k ≤ x := by
  refine ⟨u ++ v, by rw [g1, h1, List.append_assoc], fun x hx => ?_⟩
  simp at hx
  rcases hx with hx | hx
  · exact Nat.le_trans hm (h2 x hx)
  · exact Nat.le_trans hn (g2 x hx)
def PRes (w : World) (rb mb : Nat) (s : ByteArray) (L : List Tk) (t : Ty) (names' : List ByteArray) (k' : Nat) (bad' : Int) (vb : List Nat) (e : Ending) (w' : World) : Prop :=
  (bad' < 0 → (tkAt L k').is ≠ { data := #[110, 111, 110, 101] } → ∃ v vb', e = .returned v ∧ PTyR w' vb' w.heap.size w'.heap.size t v ∧ PEnd w w' rb mb s L k' names' vb vb') ∧
  (0 ≤ bad' → ∃ loc : Nat, bad' = loc ∧ (∃ b, e = thrown (.iface 83 (.pointer (some ⟨b, 0, none⟩))) ∧ w'.heap[b]? = some (.cells #[.int .i64 loc] 94 (0, 0)) ∧ w.heap.size ≤ b ∧ Kq (fun q => q = rb ∨ q = mb) w w')) ∧
  (bad' < 0 → (tkAt L k').is = { data := #[110, 111, 110, 101] } → ∃ b, e = thrown (.iface 83 (.pointer (some ⟨b, 0, none⟩))) ∧ w'.heap[b]? = some (.cells #[.int .i64 (tkAt L k').loc] 94 (0, 0)) ∧ w.heap.size ≤ b ∧ Kq (fun q => q = rb ∨ q = mb) w w')
def SPTyp (s : ByteArray) (L : List Tk) (n : Nat) : Prop := ∀ (w : World) (rb mb k : Nat) (names : List ByteArray) (vb : List Nat) (t : Ty) (names' : List ByteArray) (k' : Nat) (bad' : Int), PAt w rb s L k → VM w mb names vb → NmOk L names → rb ≠ mb → arrowM L n names k (-1) = some (t, names', k', bad') →
  Calls Tryz.prog 51 #[.agg #[.pointer (some ⟨rb, 0, none⟩), .map (some mb)]] w fun e w' => PRes w rb mb s L t names' k' bad' vb e w'
def SPOne (s : ByteArray) (L : List Tk) (n : Nat) : Prop := ∀ (w : World) (rb mb k : Nat) (names : List ByteArray) (vb : List Nat) (t : Ty) (names' : List ByteArray) (k' : Nat) (bad' : Int), PAt w rb s L k → VM w mb names vb → NmOk L names → rb ≠ mb → oneM L n names k (-1) = some (t, names', k', bad') →
  Calls Tryz.prog 79 #[.agg #[.pointer (some ⟨rb, 0, none⟩), .map (some mb)]] w fun e w' => PRes w rb mb s L t names' k' bad' vb e w'

/-- thrown at a place, within the reader of types. -/
def Thr2 (w : World) (rb mb : Nat) (loc : Nat) (e : Ending) (w' : World) : Prop := ∃ b, e = thrown (.iface 83 (.pointer (some ⟨b, 0, none⟩))) ∧ w'.heap[b]? = some (.cells #[.int .i64 loc] 94 (0, 0)) ∧ w.heap.size ≤ b ∧ Kq (fun q => q = rb ∨ q = mb) w w'
theorem PRes.thr {w w' : World} {rb mb : Nat} {s : ByteArray} {L : List Tk} {t : Ty} {names' : List ByteArray} {k' : Nat} {bad' : Int} {vb : List Nat} {e : Ending} {loc : Nat} (h : Thr2 w rb mb loc e w') (hb : bad' = loc ∨ (bad' < 0 ∧ (tkAt L k').is = { data := #[110, 111, 110, 101] } ∧ (tkAt L k').loc = loc)) : PRes w rb mb s L t names' k' bad' vb e w' := by
  rcases hb with rfl | ⟨h1, h2, rfl⟩
  · exact ⟨fun q => by omega, fun _ => ⟨loc, rfl, h⟩, fun q => by omega⟩
  · exact ⟨fun _ q => absurd h2 q, fun q => by omega, fun _ _ => h⟩
theorem PRes.ret {w w' : World} {rb mb : Nat} {s : ByteArray} {L : List Tk} {t : Ty} {names' : List ByteArray} {k' : Nat} {bad' : Int} {vb vb' : List Nat} {v : Value} (hb : bad' < 0) (ht : PTyR w' vb' w.heap.size w'.heap.size t v) (hE : PEnd w w' rb mb s L k' names' vb vb') : PRes w rb mb s L t names' k' bad' vb (.returned v) w' :=
  ⟨fun _ _ => ⟨v, vb', rfl, ht, hE⟩, fun q => by omega, fun _ q => absurd q hE.at'.nn⟩
theorem Thr2.before {w0 w w' : World} {rb mb loc : Nat} {e : Ending} (h : Thr2 w rb mb loc e w') (hk : Kq (fun q => q = rb ∨ q = mb) w0 w) : Thr2 w0 rb mb loc e w' := by
  obtain ⟨b, h1, h2, h3, h4⟩ := h
  exact ⟨b, h1, h2, Nat.le_trans hk.size h3, hk.trans h4⟩
theorem Thr2.of {w w' : World} {rb mb loc : Nat} {e : Ending} (h : ThrS w loc e w') : Thr2 w rb mb loc e w' := by
  obtain ⟨b, h1, h2, h3, h4⟩ := h
  exact ⟨b, h1, h2, h3, Kq.of_kept h4⟩
theorem PRes.thrown {w w' : World} {rb mb : Nat} {s : ByteArray} {L : List Tk} {t : Ty} {names' : List ByteArray} {k' : Nat} {bad' : Int} {vb : List Nat} {e : Ending} (h : PRes w rb mb s L t names' k' bad' vb e w') (hb : 0 ≤ bad' ∨ (tkAt L k').is = { data := #[110, 111, 110, 101] }) : ∃ loc : Nat, (bad' = loc ∨ (bad' < 0 ∧ (tkAt L k').is = { data := #[110, 111, 110, 101] } ∧ (tkAt L k').loc = loc)) ∧ Thr2 w rb mb loc e w' := by
  by_cases q : 0 ≤ bad'
  · obtain ⟨loc, e1, e2⟩ := h.2.1 q
    exact ⟨loc, .inl e1, e2⟩
  · rcases hb with hb | hb
    · exact absurd hb q
    · exact ⟨_, .inr ⟨by omega, hb, rfl⟩, h.2.2 (by omega) hb⟩

set_option maxRecDepth 20000 in
set_option maxHeartbeats 2000000 in
theorem ptyp_step (s : ByteArray) (kws : List ByteArray) (L : List Tk) (hE : PEnv s kws L) (n : Nat) (hA : SPTyp s L n) (hO : SPOne s L n) : SPTyp s L (n + 1) := by
  intro w rb mb k names vb t names' k' bad' h hv hok hne hM
  simp only [arrowM] at hM
  obtain ⟨⟨x, n1, k1, b1⟩, h1, h2⟩ := Option.bind_eq_some_iff.1 hM
  have hG := hE.good
  obtain ⟨hk1, hok1⟩ := (tread_ok L hG n).2 _ _ _ _ _ _ _ h1 h.lt hok
  have hbd := ((tread_bad L n).2 _ _ _ _ _ _ _ h1).2
  have hka : Kept w (w.alloc (.cells #[.pointer (some ⟨rb, 0, none⟩), .map (some mb)] 116)) := Kept.alloc _ _
  have HO : Hid _ := hO _ rb mb k names vb x n1 k1 b1 (h.kept hka) (hv.kept hka) hok hne h1
  have H2 : Hid _ := h2
  have hrv : ∀ q, w.heap[w.heap.size]? ≠ some q := fun q e => by simp at e
  have hrl := (by obtain ⟨kd, e, _⟩ := h.ex; exact lt_of_block e : rb < w.heap.size)
  have hml := lt_of_block hv.mp
  have hcv : (w.alloc (.cells #[.pointer (some ⟨rb, 0, none⟩), .map (some mb)] 116)).heap[w.heap.size]? = some (.cells #[.pointer (some ⟨rb, 0, none⟩), .map (some mb)] 116 (0, 0)) := heap_alloc_new _ _
  clear hM h1 h2 hrv
  generalize hw0 : w.alloc (.cells #[.pointer (some ⟨rb, 0, none⟩), .map (some mb)] 116) = w0 at *
  have a0 : w0.cell? ⟨w.heap.size, 0, none⟩ = some (.pointer (some ⟨rb, 0, none⟩)) := by simp [World.cell?, hcv]
  have a1 : w0.cell? ⟨w.heap.size, 1, none⟩ = some (.map (some mb)) := by simp [World.cell?, hcv]
  by_cases hthr : 0 ≤ b1 ∨ (tkAt L k1).is = { data := #[110, 111, 110, 101] }
  · have fin : ∀ loc : Nat, (b1 = loc ∨ (b1 < 0 ∧ (tkAt L k1).is = { data := #[110, 111, 110, 101] } ∧ (tkAt L k1).loc = loc)) → (bad' = loc ∨ (bad' < 0 ∧ (tkAt L k').is = { data := #[110, 111, 110, 101] } ∧ (tkAt L k').loc = loc)) := fun loc hl => by
      have q := H2.out
      have hf : isM L { data := #[45, 62] } k1 b1 = false := by
        rcases hthr with e | e
        · exact isM_geT e
        · exact isM_none e (by decide)
      simp only [hf, Bool.false_eq_true, if_false, Option.some.injEq, Prod.mk.injEq] at q
      obtain ⟨_, _, rfl, rfl⟩ := q
      exact hl
    have FIN : Hid _ := fin
    clear fin H2 hbd hcv
    go_enter Tryz.func51, Tryz.ntmps51
    go_wp2_with fail
    refine Calls.mono HO.out ?_
    intro e w1 hres
    obtain ⟨loc, hl, b, he, hx1, hx2, hx3⟩ := hres.thrown hthr
    rw [he]
    go_wp2
    exact ⟨rfl, PRes.thr (Thr2.before ⟨b, rfl, hx1, hx2, hx3⟩ (Kq.of_kept hka)) (FIN.out loc hl)⟩
  · have hb1 : b1 < 0 := by omega
    have hnn : (tkAt L k1).is ≠ { data := #[110, 111, 110, 101] } := fun e => hthr (.inr e)
    have e1 := hbd hb1
    subst e1
    clear hthr hbd
    go_enter Tryz.func51, Tryz.ntmps51
    go_wp2_with fail
    refine Calls.mono HO.out ?_
    intro e w1 hres
    obtain ⟨v, vb1, he, hx, hEnd⟩ := hres.1 hb1 hnn
    obtain ⟨T, u, rfl⟩ := hx.iface
    subst he
    clear hres HO
    have hq := hEnd.kp.block w.heap.size (by have := lt_of_block hcv; exact this) (by show ¬ _; omega)
    have hcv1 := hq.trans hcv
    have r0 : w1.cell? ⟨w.heap.size, 0, none⟩ = some (.pointer (some ⟨rb, 0, none⟩)) := by simp [World.cell?, hcv1]
    have r1 : w1.cell? ⟨w.heap.size, 1, none⟩ = some (.map (some mb)) := by simp [World.cell?, hcv1]
    have HI : Hid _ := at_is hE hEnd.at' { data := #[45, 62] } (.inr (.inl rfl))
    go_wp2_with fail
    refine Calls.mono HI.out ?_
    rintro e w' ⟨rfl, hww⟩
    rw [hww]
    clear hww w' HI
    have hKw := (Kq.of_kept (S := fun q => q = rb ∨ q = mb) hka).trans hEnd.kp
    have hPw := (PKeep.kept hka).trans hEnd.pk
    cases hM : isM L { data := #[45, 62] } k1 (-1)
    · have q := H2.out
      simp only [hM, Bool.false_eq_true, if_false, Option.some.injEq, Prod.mk.injEq] at q
      obtain ⟨rfl, rfl, rfl, rfl⟩ := q
      clear H2 hcv hcv1 hq
      go_wp2
      go_ret
      exact PRes.ret hb1 (hx.wide hka.size (Nat.le_refl _)) ⟨hEnd.at', hEnd.vm, pre_mono hEnd.pre hka.size, hPw, hKw⟩
    · have hk2 := isM_lt hG hk1 hM (by decide) (by decide)
      have q := H2.out
      simp only [hM, if_true] at q
      obtain ⟨⟨y, n2, k2, b2⟩, q1, q2⟩ := Option.bind_eq_some_iff.1 q
      simp only [Option.some.injEq, Prod.mk.injEq] at q2
      obtain ⟨rfl, rfl, rfl, rfl⟩ := q2
      have Q1 : Hid _ := q1
      clear H2 q q1
      by_cases hno : (tkAt L (k1 + 1)).is = { data := #[110, 111, 110, 101] }
      · have HA : Hid _ := at_advN hE hEnd.at' hk2 hno
        have hbe := (tread_none L n n1 (k1 + 1) (-1) (by omega) hno).2 _ _ _ _ Q1.out
        have HBE : Hid _ := hbe
        clear hbe Q1 hcv hcv1 hq hM
        go_wp2_with fail
        refine Calls.mono HA.out ?_
        rintro e w3 ⟨b, he, hx1, hx2, hx3⟩
        rw [he]
        clear he
        go_wp2
        exact ⟨rfl, PRes.thr (Thr2.before (Thr2.of ⟨b, rfl, hx1, hx2, hx3⟩) hKw) (.inl HBE.out)⟩
      · have HA : Hid _ := at_adv hE hEnd.at' hk2 hno
        have hrd := hEnd.at'.ex
        obtain ⟨kd1, hrd, _⟩ := hrd
        clear hM
        go_wp2_with fail
        refine Calls.mono HA.out ?_
        rintro e w3 ⟨rfl, hK3, hP3⟩
        have hcv3 := (hK3.block w.heap.size (lt_of_block hcv1) (by show ¬ _; omega)).trans hcv1
        have r30 : w3.cell? ⟨w.heap.size, 0, none⟩ = some (.pointer (some ⟨rb, 0, none⟩)) := by simp [World.cell?, hcv3]
        have r31 : w3.cell? ⟨w.heap.size, 1, none⟩ = some (.map (some mb)) := by simp [World.cell?, hcv3]
        have pk3 := PKeep.rd hrd hK3
        have hx3 := hx.keep pk3
        have hm3 : VM w3 mb n1 vb1 := ⟨hEnd.vm.len, hK3.blk hEnd.vm.mp (fun e => hne e.symm), fun j hj => hK3.blk (hEnd.vm.vr j hj) (fun e => by
          have e : vb1.getD j 0 = rb := e
          have a := hEnd.vm.vr j hj
          rw [e] at a
          have hrd : w1.heap[rb]? = some (.cells #[.string s, .int .i64 kd1, .int .i64 (tkAt L k1).loc, .string (tkAt L k1).s] 191 (0, 0)) := hrd
          rw [hrd] at a
          simp at a)⟩
        have hKw3 := hKw.trans (Kq.of_kp (S := fun q => q = rb ∨ q = mb) hK3 (fun q e => Or.inl e))
        have hPw3 := hPw.trans pk3
        have HT : Hid _ := hA w3 rb mb (k1 + 1) n1 vb1 y n2 k2 b2 hP3 hm3 hok1 hne Q1.out
        obtain ⟨u1, hu1, hf1⟩ := hEnd.pre
        have hs13 := hK3.size
        clear hEnd hrd hK3 hP3 hm3 pk3 hx hKw hPw hcv hcv1 hq HA
        go_wp2_with fail
        refine Calls.mono HT.out ?_
        intro e w4 hres
        by_cases hthr2 : 0 ≤ b2 ∨ (tkAt L k2).is = { data := #[110, 111, 110, 101] }
        · obtain ⟨loc, hl, b, he, hx1, hx2, hx4⟩ := hres.thrown hthr2
          rw [he]
          clear he hres
          go_wp2
          exact ⟨rfl, PRes.thr (Thr2.before ⟨b, rfl, hx1, hx2, hx4⟩ hKw3) hl⟩
        · have hb2 : b2 < 0 := by omega
          have hnn2 : (tkAt L k2).is ≠ { data := #[110, 111, 110, 101] } := fun e => hthr2 (.inr e)
          obtain ⟨v2, vb2, he, hy, hEnd2⟩ := hres.1 hb2 hnn2
          obtain ⟨T2, u2, rfl⟩ := hy.iface
          subst he
          obtain ⟨u3, hu3, hf3⟩ := hEnd2.pre
          have hx4 : PTyR w4 vb2 w0.heap.size w1.heap.size x (.iface T u) := by rw [hu3]; exact (hx3.keep hEnd2.pk).up u3
          have hka4 : Kept w4 (w4.alloc (.cells #[.nilIface, .iface T u, .iface T2 u2] 160)) := Kept.alloc _ _
          have hfin : PTyR (w4.alloc (.cells #[.nilIface, .iface T u, .iface T2 u2] 160)) vb2 w.heap.size (w4.alloc (.cells #[.nilIface, .iface T u, .iface T2 u2] 160)).heap.size (.mk { data := #[102, 117, 110] } 0 [x, y]) (.iface 157 (.pointer (some ⟨w4.heap.size, 0, none⟩))) := .fn x y _ _ _ _ w1.heap.size w4.heap.size _ (heap_alloc_new _ _) ((hx4.keep (PKeep.kept hka4)).wide hka.size (Nat.le_refl _)) ((hy.keep (PKeep.kept hka4)).wide hs13 (Nat.le_refl _)) (Nat.le_refl _) (by simp)
          have hEF : PEnd w (w4.alloc (.cells #[.nilIface, .iface T u, .iface T2 u2] 160)) rb mb s L k2 n2 vb vb2 := ⟨hEnd2.at'.kept hka4, hEnd2.vm.kept hka4, pre_app hu1 hf1 hu3 hf3 hka.size hKw3.size, (hPw3.trans hEnd2.pk).trans (PKeep.kept hka4), (hKw3.trans hEnd2.kp).trans (Kq.of_kept hka4)⟩
          clear hres hEnd2 hx4 hy hx3
          go_wp2
          go_ret
          exact PRes.ret hb2 hfin hEF
end Go.Proofs.YtleenphlgbklmabGreatDoor

namespace Go.Proofs.YtleenphlgbklmabGreatDoor
open Go.RowKit

section
variable {w w' : World} {rb mb : Nat} {s : ByteArray} {L : List Tk} {k : Nat} {names : List ByteArray} {vb : List Nat}
/-- the map of variables stands while the reader goes on. -/
theorem VM.rd (h : VM w mb names vb) (hp : PAt w rb s L k) (g : Kp (· = rb) w w') (hne : rb ≠ mb) : VM w' mb names vb := by
  obtain ⟨kd, hrd, _⟩ := hp.ex
  refine ⟨h.len, g.blk h.mp (fun e => hne e.symm), fun j hj => g.blk (h.vr j hj) (fun e => ?_)⟩
  have e : vb.getD j 0 = rb := e
  have a := h.vr j hj
  rw [e] at a
  have hrd : w.heap[rb]? = some (.cells #[.string s, .int .i64 kd, .int .i64 (tkAt L k).loc, .string (tkAt L k).s] 191 (0, 0)) := hrd
  rw [hrd] at a
  simp at a
theorem PKeep.pat (hp : PAt w rb s L k) (g : Kp (· = rb) w w') : PKeep w w' := by
  obtain ⟨kd, hrd, _⟩ := hp.ex
  exact PKeep.rd hrd g
theorem PAt.ltq (hp : PAt w rb s L k) : rb < w.heap.size := by obtain ⟨kd, e, _⟩ := hp.ex; exact lt_of_block e
end
theorem needB_true {l : List Tk} {q : ByteArray} {k : Nat} {bad : Int} (h : isM l q k bad = true) : needB l q k bad = bad ∧ takeK l q k bad = k + 1 := by
  constructor
  · unfold needB; rw [if_neg (by simp [h])]
  · unfold takeK; rw [if_pos h]
theorem needB_false {l : List Tk} {q : ByteArray} {k : Nat} {bad : Int} (h : isM l q k bad = false) (hb : bad < 0) : needB l q k bad = (tkAt l k).loc ∧ takeK l q k bad = k := by
  constructor
  · unfold needB; rw [if_pos (by simp [h, hb])]
  · unfold takeK; rw [if_neg (by simp [h])]

set_option maxRecDepth 20000 in
set_option maxHeartbeats 2000000 in
theorem plist_any (s : ByteArray) (kws : List ByteArray) (L : List Tk) (hE : PEnv s kws L) (n : Nat) (hA : SPTyp s L n) (w : World) (rb mb k : Nat) (names : List ByteArray) (vb : List Nat) (x : Ty) (n1 : List ByteArray) (k1 : Nat) (b1 : Int)
    (h : PAt w rb s L k) (hv : VM w mb names vb) (hok : NmOk L names) (hne : rb ≠ mb) (hM : isM L { data := #[91] } k (-1) = true) (hA1 : arrowM L n names (k + 1) (-1) = some (x, n1, k1, b1)) :
    Calls Tryz.prog 122 #[.agg #[.pointer (some ⟨rb, 0, none⟩), .map (some mb)]] w fun e w' => PRes w rb mb s L (.mk { data := #[108, 105, 115, 116] } 0 [x]) n1 (takeK L { data := #[93] } k1 b1) (needB L { data := #[93] } k1 b1) vb e w' := by
  have hG := hE.good
  have hk1 := isM_lt hG h.lt hM (by decide) (by decide)
  have hka : Kept w (w.alloc (.cells #[.pointer (some ⟨rb, 0, none⟩), .map (some mb)] 116)) := Kept.alloc _ _
  have hcv : (w.alloc (.cells #[.pointer (some ⟨rb, 0, none⟩), .map (some mb)] 116)).heap[w.heap.size]? = some (.cells #[.pointer (some ⟨rb, 0, none⟩), .map (some mb)] 116 (0, 0)) := heap_alloc_new _ _
  have h0 := h.kept hka
  have hv0 := hv.kept hka
  have hrl := h.ltq
  have hml := lt_of_block hv.mp
  clear h hv
  generalize hw0 : w.alloc (.cells #[.pointer (some ⟨rb, 0, none⟩), .map (some mb)] 116) = w0 at *
  have a0 : w0.cell? ⟨w.heap.size, 0, none⟩ = some (.pointer (some ⟨rb, 0, none⟩)) := by simp [World.cell?, hcv]
  have a1 : w0.cell? ⟨w.heap.size, 1, none⟩ = some (.map (some mb)) := by simp [World.cell?, hcv]
  have hKw : Kq (fun q => q = rb ∨ q = mb) w w0 := Kq.of_kept hka
  by_cases hno : (tkAt L (k + 1)).is = { data := #[110, 111, 110, 101] }
  · have HX : Hid _ := at_expN hE h0 { data := #[91] } (.inr (.inr ⟨91, rfl, rfl⟩)) hk1 hM hno
    have hbe := (tread_none L n names (k + 1) (-1) (by omega) hno).2 _ _ _ _ hA1
    have HBE : Hid (needB L { data := #[93] } k1 b1 = (tkAt L (k + 1)).loc) := by show _ = _; rw [needB_geT (by omega)]; exact hbe
    clear hbe hA1 hM hcv
    go_enter Tryz.func122, Tryz.ntmps122
    go_wp2_with fail
    refine Calls.mono HX.out ?_
    rintro e w3 ⟨b, he, hx1, hx2, hx3⟩
    rw [he]
    clear he
    go_wp2
    exact ⟨rfl, PRes.thr (Thr2.before (Thr2.of ⟨b, rfl, hx1, hx2, hx3⟩) hKw) (.inl HBE.out)⟩
  · have HX : Hid _ := at_exp hE h0 { data := #[91] } (.inr (.inr ⟨91, rfl, rfl⟩)) hk1 hM hno
    have hbd := ((tread_bad L n).1 _ _ _ _ _ _ _ hA1).2
    obtain ⟨hkl, hok1⟩ := (tread_ok L hG n).1 _ _ _ _ _ _ _ hA1 hk1 hok
    have HA1 : Hid _ := hA1
    clear hA1 hM
    go_enter Tryz.func122, Tryz.ntmps122
    go_wp2_with fail
    refine Calls.mono HX.out ?_
    rintro e w3 ⟨rfl, hK3, hP3⟩
    have hm3 := hv0.rd h0 hK3 hne
    have pk3 := PKeep.pat h0 hK3
    have hcv3 := (hK3.block w.heap.size (lt_of_block hcv) (by show ¬ _; omega)).trans hcv
    have r30 : w3.cell? ⟨w.heap.size, 0, none⟩ = some (.pointer (some ⟨rb, 0, none⟩)) := by simp [World.cell?, hcv3]
    have r31 : w3.cell? ⟨w.heap.size, 1, none⟩ = some (.map (some mb)) := by simp [World.cell?, hcv3]
    have hKw3 := hKw.trans (Kq.of_kp (S := fun q => q = rb ∨ q = mb) hK3 (fun q e => Or.inl e))
    have hPw3 := (PKeep.kept hka).trans pk3
    have HT : Hid _ := hA w3 rb mb (k + 1) names vb x n1 k1 b1 hP3 hm3 hok hne HA1.out
    clear h0 hv0 hK3 hP3 hm3 pk3 hcv HX HA1 a0 a1
    go_wp2_with fail
    refine Calls.mono HT.out ?_
    intro e w4 hres
    by_cases hthr : 0 ≤ b1 ∨ (tkAt L k1).is = { data := #[110, 111, 110, 101] }
    · obtain ⟨loc, hl, b, he, hx1, hx2, hx4⟩ := hres.thrown hthr
      have fin : needB L { data := #[93] } k1 b1 = loc := by
        rcases hl with e | ⟨e1, e2, e3⟩
        · rw [needB_geT (by omega)]; exact e
        · rw [(needB_false (isM_none e2 (by decide)) e1).1, e3]
      have FIN : Hid _ := fin
      rw [he]
      clear he hres fin hl
      go_wp2
      exact ⟨rfl, PRes.thr (Thr2.before ⟨b, rfl, hx1, hx2, hx4⟩ hKw3) (.inl FIN.out)⟩
    · have hb1 : b1 < 0 := by omega
      have hnn : (tkAt L k1).is ≠ { data := #[110, 111, 110, 101] } := fun e => hthr (.inr e)
      have e1 := hbd hb1
      subst e1
      obtain ⟨v, vb1, he, hx, hEnd⟩ := hres.1 hb1 hnn
      obtain ⟨T, u, rfl⟩ := hx.iface
      subst he
      clear hres HT hthr hbd
      have hcv4 := (hEnd.kp.block w.heap.size (lt_of_block hcv3) (by show ¬ _; omega)).trans hcv3
      have r40 : w4.cell? ⟨w.heap.size, 0, none⟩ = some (.pointer (some ⟨rb, 0, none⟩)) := by simp [World.cell?, hcv4]
      have r41 : w4.cell? ⟨w.heap.size, 1, none⟩ = some (.map (some mb)) := by simp [World.cell?, hcv4]
      have hKw4 := hKw3.trans hEnd.kp
      have hPw4 := hPw3.trans hEnd.pk
      cases hM : isM L { data := #[93] } k1 (-1)
      · have HX : Hid _ := at_expB hE hEnd.at' { data := #[93] } (.inr (.inr ⟨93, rfl, rfl⟩)) hM
        have HB : Hid _ := (needB_false hM hb1).1
        clear hM hcv3 hcv4
        go_wp2_with fail
        refine Calls.mono HX.out ?_
        rintro e w5 ⟨b, he, hx1, hx2, hx3⟩
        rw [he]
        clear he
        go_wp2
        exact ⟨rfl, PRes.thr (Thr2.before (Thr2.of ⟨b, rfl, hx1, hx2, hx3⟩) hKw4) (.inl HB.out)⟩
      · have hk2 := isM_lt hG hkl hM (by decide) (by decide)
        have HNT : Hid _ := needB_true hM
        by_cases hno2 : (tkAt L (k1 + 1)).is = { data := #[110, 111, 110, 101] }
        · have HX : Hid _ := at_expN hE hEnd.at' { data := #[93] } (.inr (.inr ⟨93, rfl, rfl⟩)) hk2 hM hno2
          clear hM hcv3 hcv4
          go_wp2_with fail
          refine Calls.mono HX.out ?_
          rintro e w5 ⟨b, he, hx1, hx2, hx3⟩
          rw [he]
          clear he
          go_wp2
          exact ⟨rfl, by rw [HNT.out.1, HNT.out.2]; exact PRes.thr (Thr2.before (Thr2.of ⟨b, rfl, hx1, hx2, hx3⟩) hKw4) (.inr ⟨hb1, hno2, rfl⟩)⟩
        · have HX : Hid _ := at_exp hE hEnd.at' { data := #[93] } (.inr (.inr ⟨93, rfl, rfl⟩)) hk2 hM hno2
          clear hM hcv3 hcv4
          go_wp2_with fail
          refine Calls.mono HX.out ?_
          rintro e w5 ⟨rfl, hK5, hP5⟩
          have pk5 := PKeep.pat hEnd.at' hK5
          have hm5 := hEnd.vm.rd hEnd.at' hK5 hne
          have hka5 : Kept w5 (w5.alloc (.cells #[.nilIface, .iface T u] 152)) := Kept.alloc _ _
          have hfin : PTyR (w5.alloc (.cells #[.nilIface, .iface T u] 152)) vb1 w.heap.size (w5.alloc (.cells #[.nilIface, .iface T u] 152)).heap.size (.mk { data := #[108, 105, 115, 116] } 0 [x]) (.iface 149 (.pointer (some ⟨w5.heap.size, 0, none⟩))) := .list x _ _ _ w4.heap.size _ (heap_alloc_new _ _) (((hx.keep pk5).keep (PKeep.kept hka5)).wide hKw3.size (Nat.le_refl _)) hK5.size (by simp)
          have hEF : PEnd w (w5.alloc (.cells #[.nilIface, .iface T u] 152)) rb mb s L (k1 + 1) n1 vb vb1 := ⟨hP5.kept hka5, hm5.kept hka5, pre_mono hEnd.pre hKw3.size, (hPw4.trans pk5).trans (PKeep.kept hka5), (hKw4.trans (Kq.of_kp hK5 (fun q e => Or.inl e))).trans (Kq.of_kept hka5)⟩
          clear hEnd hK5 hP5 hm5 pk5 hx
          go_wp2
          go_ret
          rw [HNT.out.1, HNT.out.2]
          exact PRes.ret hb1 hfin hEF
/-- behind the last bracket. -/
theorem pclose {s : ByteArray} {kws : List ByteArray} {L : List Tk} (hE : PEnv s kws L) {w w4 : World} {rb mb k1 : Nat} {n1 : List ByteArray} {vb vb1 : List Nat} {x : Ty} {v : Value} {lo : Nat} (hne : rb ≠ mb) (hx : PTyR w4 vb1 lo w4.heap.size x v) (hEnd : PEnd w w4 rb mb s L k1 n1 vb vb1) :
    Calls Tryz.prog 148 #[.pointer (some ⟨rb, 0, none⟩), .string { data := #[41] }] w4 fun e w' =>
      (∃ loc : Nat, (needB L { data := #[41] } k1 (-1) = loc ∨ (needB L { data := #[41] } k1 (-1) < 0 ∧ (tkAt L (takeK L { data := #[41] } k1 (-1))).is = { data := #[110, 111, 110, 101] } ∧ (tkAt L (takeK L { data := #[41] } k1 (-1))).loc = loc)) ∧ Thr2 w rb mb loc e w') ∨
      (e = .returned (.tuple #[]) ∧ needB L { data := #[41] } k1 (-1) < 0 ∧ PTyR w' vb1 lo w'.heap.size x v ∧ PEnd w w' rb mb s L (takeK L { data := #[41] } k1 (-1)) n1 vb vb1) := by
  have hG := hE.good
  cases hM : isM L { data := #[41] } k1 (-1)
  · refine (at_expB hE hEnd.at' { data := #[41] } (.inr (.inr ⟨41, rfl, rfl⟩)) hM).mono ?_
    intro e w' hthr
    exact .inl ⟨_, .inl (needB_false hM (by omega)).1, Thr2.before (Thr2.of hthr) hEnd.kp⟩
  · have hk2 := isM_lt hG hEnd.at'.lt hM (by decide) (by decide)
    have hNT := needB_true hM
    by_cases hno2 : (tkAt L (k1 + 1)).is = { data := #[110, 111, 110, 101] }
    · refine (at_expN hE hEnd.at' { data := #[41] } (.inr (.inr ⟨41, rfl, rfl⟩)) hk2 hM hno2).mono ?_
      intro e w' hthr
      exact .inl ⟨_, .inr ⟨by rw [hNT.1]; omega, by rw [hNT.2]; exact hno2, by rw [hNT.2]⟩, Thr2.before (Thr2.of hthr) hEnd.kp⟩
    · refine (at_exp hE hEnd.at' { data := #[41] } (.inr (.inr ⟨41, rfl, rfl⟩)) hk2 hM hno2).mono ?_
      rintro e w5 ⟨rfl, hK5, hP5⟩
      have pk5 := PKeep.pat hEnd.at' hK5
      have hm5 := hEnd.vm.rd hEnd.at' hK5 hne
      rw [hNT.1, hNT.2]
      exact .inr ⟨rfl, by omega, (hx.keep pk5).wide (Nat.le_refl _) hK5.size, hP5, hm5, hEnd.pre, hEnd.pk.trans pk5, hEnd.kp.trans (Kq.of_kp hK5 (fun q e => Or.inl e))⟩

set_option maxRecDepth 20000 in
set_option maxHeartbeats 2000000 in
theorem pbrk_any (s : ByteArray) (kws : List ByteArray) (L : List Tk) (hE : PEnv s kws L) (n : Nat) (hA : SPTyp s L n) (w : World) (rb mb k : Nat) (names : List ByteArray) (vb : List Nat) (x : Ty) (n1 : List ByteArray) (k1 : Nat) (b1 : Int) (t : Ty) (names' : List ByteArray) (k' : Nat) (bad' : Int)
    (h : PAt w rb s L k) (hv : VM w mb names vb) (hok : NmOk L names) (hne : rb ≠ mb) (hM : isM L { data := #[40] } k (-1) = true) (hA1 : arrowM L n names (k + 1) (-1) = some (x, n1, k1, b1))
    (hR : (if isM L { data := #[44] } k1 b1 then (arrowM L n n1 (k1 + 1) b1).bind fun s => some (Ty.mk { data := #[112, 97, 105, 114] } 0 [x, s.1], s.2.1, takeK L { data := #[41] } s.2.2.1 s.2.2.2, needB L { data := #[41] } s.2.2.1 s.2.2.2) else some (x, n1, takeK L { data := #[41] } k1 b1, needB L { data := #[41] } k1 b1)) = some (t, names', k', bad')) :
    Calls Tryz.prog 123 #[.agg #[.pointer (some ⟨rb, 0, none⟩), .map (some mb)]] w fun e w' => PRes w rb mb s L t names' k' bad' vb e w' := by
  have hG := hE.good
  have hk1 := isM_lt hG h.lt hM (by decide) (by decide)
  have hka : Kept w (w.alloc (.cells #[.pointer (some ⟨rb, 0, none⟩), .map (some mb)] 116)) := Kept.alloc _ _
  have hcv : (w.alloc (.cells #[.pointer (some ⟨rb, 0, none⟩), .map (some mb)] 116)).heap[w.heap.size]? = some (.cells #[.pointer (some ⟨rb, 0, none⟩), .map (some mb)] 116 (0, 0)) := heap_alloc_new _ _
  have h0 := h.kept hka
  have hv0 := hv.kept hka
  have hrl := h.ltq
  have hml := lt_of_block hv.mp
  have HRR : Hid _ := hR
  clear h hv hR
  generalize hw0 : w.alloc (.cells #[.pointer (some ⟨rb, 0, none⟩), .map (some mb)] 116) = w0 at *
  have a0 : w0.cell? ⟨w.heap.size, 0, none⟩ = some (.pointer (some ⟨rb, 0, none⟩)) := by simp [World.cell?, hcv]
  have a1 : w0.cell? ⟨w.heap.size, 1, none⟩ = some (.map (some mb)) := by simp [World.cell?, hcv]
  have hKw : Kq (fun q => q = rb ∨ q = mb) w w0 := Kq.of_kept hka
  -- where x is thrown
  have FX : Hid (∀ loc : Nat, (b1 = loc ∨ (b1 < 0 ∧ (tkAt L k1).is = { data := #[110, 111, 110, 101] } ∧ (tkAt L k1).loc = loc)) → bad' = loc) := fun loc hl => by
    have q := HRR.out
    have hf : isM L { data := #[44] } k1 b1 = false := by
      rcases hl with e | ⟨_, e, _⟩
      · exact isM_geT (by omega)
      · exact isM_none e (by decide)
    simp only [hf, Bool.false_eq_true, if_false, Option.some.injEq, Prod.mk.injEq] at q
    obtain ⟨_, _, _, rfl⟩ := q
    rcases hl with e | ⟨e1, e2, e3⟩
    · rw [needB_geT (by omega)]; exact e
    · rw [(needB_false (isM_none e2 (by decide)) e1).1, e3]
  by_cases hno : (tkAt L (k + 1)).is = { data := #[110, 111, 110, 101] }
  · have HX : Hid _ := at_expN hE h0 { data := #[40] } (.inr (.inr ⟨40, rfl, rfl⟩)) hk1 hM hno
    have hbe := (tread_none L n names (k + 1) (-1) (by omega) hno).2 _ _ _ _ hA1
    have HBE : Hid (bad' = (tkAt L (k + 1)).loc) := FX.out _ (.inl hbe)
    clear hbe hA1 hM hcv FX HRR
    go_enter Tryz.func123, Tryz.ntmps123
    go_wp2_with fail
    refine Calls.mono HX.out ?_
    rintro e w3 ⟨b, he, hx1, hx2, hx3⟩
    rw [he]
    clear he
    go_wp2
    exact ⟨rfl, PRes.thr (Thr2.before (Thr2.of ⟨b, rfl, hx1, hx2, hx3⟩) hKw) (.inl HBE.out)⟩
  · have HX : Hid _ := at_exp hE h0 { data := #[40] } (.inr (.inr ⟨40, rfl, rfl⟩)) hk1 hM hno
    have hbd := ((tread_bad L n).1 _ _ _ _ _ _ _ hA1).2
    obtain ⟨hkl, hok1⟩ := (tread_ok L hG n).1 _ _ _ _ _ _ _ hA1 hk1 hok
    have HA1 : Hid _ := hA1
    clear hA1 hM
    go_enter Tryz.func123, Tryz.ntmps123
    go_wp2_with fail
    refine Calls.mono HX.out ?_
    rintro e w3 ⟨rfl, hK3, hP3⟩
    have hm3 := hv0.rd h0 hK3 hne
    have pk3 := PKeep.pat h0 hK3
    have hcv3 := (hK3.block w.heap.size (lt_of_block hcv) (by show ¬ _; omega)).trans hcv
    have r30 : w3.cell? ⟨w.heap.size, 0, none⟩ = some (.pointer (some ⟨rb, 0, none⟩)) := by simp [World.cell?, hcv3]
    have r31 : w3.cell? ⟨w.heap.size, 1, none⟩ = some (.map (some mb)) := by simp [World.cell?, hcv3]
    have hKw3 := hKw.trans (Kq.of_kp (S := fun q => q = rb ∨ q = mb) hK3 (fun q e => Or.inl e))
    have hPw3 := (PKeep.kept hka).trans pk3
    have HT : Hid _ := hA w3 rb mb (k + 1) names vb x n1 k1 b1 hP3 hm3 hok hne HA1.out
    clear h0 hv0 hK3 hP3 hm3 pk3 hcv HX HA1 a0 a1
    go_wp2_with fail
    refine Calls.mono HT.out ?_
    intro e w4 hres
    by_cases hthr : 0 ≤ b1 ∨ (tkAt L k1).is = { data := #[110, 111, 110, 101] }
    · obtain ⟨loc, hl, b, he, hx1, hx2, hx4⟩ := hres.thrown hthr
      have FIN : Hid _ := FX.out loc hl
      rw [he]
      clear he hres hl FX HRR
      go_wp2
      exact ⟨rfl, PRes.thr (Thr2.before ⟨b, rfl, hx1, hx2, hx4⟩ hKw3) (.inl FIN.out)⟩
    · have hb1 : b1 < 0 := by omega
      have hnn : (tkAt L k1).is ≠ { data := #[110, 111, 110, 101] } := fun e => hthr (.inr e)
      have e1 := hbd hb1
      subst e1
      obtain ⟨v, vb1, he, hx, hEnd⟩ := hres.1 hb1 hnn
      obtain ⟨T, u, rfl⟩ := hx.iface
      have hx := hx.wide hKw3.size (Nat.le_refl _)
      subst he
      clear hres HT hthr hbd FX
      have hcv4 := (hEnd.kp.block w.heap.size (lt_of_block hcv3) (by show ¬ _; omega)).trans hcv3
      have r40 : w4.cell? ⟨w.heap.size, 0, none⟩ = some (.pointer (some ⟨rb, 0, none⟩)) := by simp [World.cell?, hcv4]
      have r41 : w4.cell? ⟨w.heap.size, 1, none⟩ = some (.map (some mb)) := by simp [World.cell?, hcv4]
      have hEnd' : PEnd w w4 rb mb s L k1 n1 vb vb1 := ⟨hEnd.at', hEnd.vm, pre_mono hEnd.pre hKw3.size, hPw3.trans hEnd.pk, hKw3.trans hEnd.kp⟩
      have HI : Hid _ := at_is hE hEnd.at' { data := #[44] } (.inr (.inr ⟨44, rfl, rfl⟩))
      clear hEnd hcv3
      go_wp2_with fail
      refine Calls.mono HI.out ?_
      rintro e w' ⟨rfl, hww⟩
      rw [hww]
      clear hww w' HI
      cases hM : isM L { data := #[44] } k1 (-1)
      · have q := HRR.out
        simp only [hM, Bool.false_eq_true, if_false, Option.some.injEq, Prod.mk.injEq] at q
        obtain ⟨rfl, rfl, rfl, rfl⟩ := q
        have HC : Hid _ := pclose hE hne hx hEnd'
        clear HRR hM hx hEnd' hcv4
        go_wp2_with fail
        refine Calls.mono HC.out ?_
        rintro e w5 (⟨loc, hl, b, he, hx1, hx2, hx3⟩ | ⟨rfl, hbn, hx5, hE5⟩)
        · rw [he]
          clear he
          go_wp2
          exact ⟨rfl, PRes.thr ⟨b, rfl, hx1, hx2, hx3⟩ hl⟩
        · go_wp2
          go_ret
          exact PRes.ret hbn hx5 hE5
      · have hk2 := isM_lt hG hkl hM (by decide) (by decide)
        have q := HRR.out
        simp only [hM, if_true] at q
        obtain ⟨⟨y, n2, k2, b2⟩, q1, q2⟩ := Option.bind_eq_some_iff.1 q
        simp only [Option.some.injEq, Prod.mk.injEq] at q2
        obtain ⟨rfl, rfl, rfl, rfl⟩ := q2
        have Q1 : Hid _ := q1
        have hbd2 := ((tread_bad L n).1 _ _ _ _ _ _ _ q1).2
        clear HRR q q1
        by_cases hno2 : (tkAt L (k1 + 1)).is = { data := #[110, 111, 110, 101] }
        · have HA : Hid _ := at_advN hE hEnd'.at' hk2 hno2
          have hbe := (tread_none L n n1 (k1 + 1) (-1) (by omega) hno2).2 _ _ _ _ Q1.out
          have HBE : Hid (needB L { data := #[41] } k2 b2 = (tkAt L (k1 + 1)).loc) := by show _ = _; rw [needB_geT (by omega)]; exact hbe
          clear hbe Q1 hM hcv4 hbd2
          go_wp2_with fail
          refine Calls.mono HA.out ?_
          rintro e w5 ⟨b, he, hx1, hx2, hx3⟩
          rw [he]
          clear he
          go_wp2
          exact ⟨rfl, PRes.thr (Thr2.before (Thr2.of ⟨b, rfl, hx1, hx2, hx3⟩) hEnd'.kp) (.inl HBE.out)⟩
        · have HA : Hid _ := at_adv hE hEnd'.at' hk2 hno2
          clear hM
          go_wp2_with fail
          refine Calls.mono HA.out ?_
          rintro e w5 ⟨rfl, hK5, hP5⟩
          have hm5 := hEnd'.vm.rd hEnd'.at' hK5 hne
          have pk5 := PKeep.pat hEnd'.at' hK5
          have hcv5 := (hK5.block w.heap.size (lt_of_block hcv4) (by show ¬ _; omega)).trans hcv4
          have r50 : w5.cell? ⟨w.heap.size, 0, none⟩ = some (.pointer (some ⟨rb, 0, none⟩)) := by simp [World.cell?, hcv5]
          have r51 : w5.cell? ⟨w.heap.size, 1, none⟩ = some (.map (some mb)) := by simp [World.cell?, hcv5]
          have hKw5 := hEnd'.kp.trans (Kq.of_kp (S := fun q => q = rb ∨ q = mb) hK5 (fun q e => Or.inl e))
          have hPw5 := hEnd'.pk.trans pk5
          have hx5 := hx.keep pk5
          have HT : Hid _ := hA w5 rb mb (k1 + 1) n1 vb1 y n2 k2 b2 hP5 hm5 hok1 hne Q1.out
          obtain ⟨u1, hu1, hf1⟩ := hEnd'.pre
          have hs45 := hK5.size
          clear hEnd' hK5 hP5 hm5 pk5 hx hcv4 HA
          go_wp2_with fail
          refine Calls.mono HT.out ?_
          intro e w6 hres
          by_cases hthr2 : 0 ≤ b2 ∨ (tkAt L k2).is = { data := #[110, 111, 110, 101] }
          · obtain ⟨loc, hl, b, he, hx1, hx2, hx4⟩ := hres.thrown hthr2
            have fin : needB L { data := #[41] } k2 b2 = loc := by
              rcases hl with e | ⟨e1, e2, e3⟩
              · rw [needB_geT (by omega)]; exact e
              · rw [(needB_false (isM_none e2 (by decide)) e1).1, e3]
            have FIN : Hid _ := fin
            rw [he]
            clear he hres fin hl
            go_wp2
            exact ⟨rfl, PRes.thr (Thr2.before ⟨b, rfl, hx1, hx2, hx4⟩ hKw5) (.inl FIN.out)⟩
          · have hb2 : b2 < 0 := by omega
            have hnn2 : (tkAt L k2).is ≠ { data := #[110, 111, 110, 101] } := fun e => hthr2 (.inr e)
            have e2 := hbd2 hb2
            subst e2
            obtain ⟨v2, vb2, he, hy, hEnd2⟩ := hres.1 hb2 hnn2
            obtain ⟨T2, u2, rfl⟩ := hy.iface
            subst he
            obtain ⟨u3, hu3, hf3⟩ := hEnd2.pre
            have hx6 : PTyR w6 vb2 w.heap.size w4.heap.size x (.iface T u) := by rw [hu3]; exact (hx5.keep hEnd2.pk).up u3
            have hka6 : Kept w6 (w6.alloc (.cells #[.nilIface, .iface T u, .iface T2 u2] 156)) := Kept.alloc _ _
            have hfin : PTyR (w6.alloc (.cells #[.nilIface, .iface T u, .iface T2 u2] 156)) vb2 w.heap.size (w6.alloc (.cells #[.nilIface, .iface T u, .iface T2 u2] 156)).heap.size (.mk { data := #[112, 97, 105, 114] } 0 [x, y]) (.iface 153 (.pointer (some ⟨w6.heap.size, 0, none⟩))) := .pair x y _ _ _ _ w4.heap.size w6.heap.size _ (heap_alloc_new _ _) (hx6.keep (PKeep.kept hka6)) ((hy.keep (PKeep.kept hka6)).wide hs45 (Nat.le_refl _)) (Nat.le_refl _) (by simp)
            have hEF : PEnd w (w6.alloc (.cells #[.nilIface, .iface T u, .iface T2 u2] 156)) rb mb s L k2 n2 vb vb2 := ⟨hEnd2.at'.kept hka6, hEnd2.vm.kept hka6, pre_app hu1 hf1 hu3 hf3 (Nat.le_refl _) hKw5.size, (hPw5.trans hEnd2.pk).trans (PKeep.kept hka6), (hKw5.trans hEnd2.kp).trans (Kq.of_kept hka6)⟩
            have hcv6 := (hEnd2.kp.block w.heap.size (lt_of_block hcv5) (by show ¬ _; omega)).trans hcv5
            have hcv7 := hka6.blk hcv6
            have r70 : (w6.alloc (.cells #[.nilIface, .iface T u, .iface T2 u2] 156)).cell? ⟨w.heap.size, 0, none⟩ = some (.pointer (some ⟨rb, 0, none⟩)) := by simp only [World.cell?, hcv7]; rfl
            have HC : Hid _ := pclose hE hne hfin hEF
            clear hres hEnd2 hx6 hy hx5 hfin hEF hcv6 hcv7 hcv5
            go_wp2_with fail
            refine Calls.mono HC.out ?_
            rintro e w8 (⟨loc, hl, b, he, hx1, hx2, hx3⟩ | ⟨rfl, hbn, hx8, hE8⟩)
            · rw [he]
              clear he
              go_wp2
              exact ⟨rfl, PRes.thr ⟨b, rfl, hx1, hx2, hx3⟩ hl⟩
            · go_wp2
              go_ret
              exact PRes.ret hbn hx8 hE8
end Go.Proofs.YtleenphlgbklmabGreatDoor

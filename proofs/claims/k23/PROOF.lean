import PyProof.Rows.All
import Wide.All
import OpenK.AllK
import Wide.FinOn
import KE.KBits
import KE.BitLaws
import HandS.ForMost
import HandS.ForExc
import HandS.IsInst
import HandS.Wide
import HandS.WideBits
import HandS.WideMore
import HandS.Flow
import HandS.ExcInit
import HandS.Codes
import HandS.ExcField
import HandS.ExcIs
import KE.KExcIs
import KE.KIsAll
import HandS.More
import HandS.Dict
import HandS.CallLocal
import HandS.Zip
import HandS.Text
import HandS.Conv
import HandS.Iter
import PySem.Challenge.RW_wasmhost_k23_strings_come_back
set_option Elab.async false
set_option linter.all false
set_option maxRecDepth 100000
set_option maxHeartbeats 4000000
namespace V
open PySem PySem.Spec PyProof.Rows L2
/-! ### a def that may be called by its name -/
structure Cal (P : Program) (w : World) (K : PySem.W.Frag) (mg : Str → Option Value) (base : Heap) (C : CXT) (k : Nat) (x : Str) (sp : Sp) : Prop where
  ex : ∃ (f : Addr) (fd : FuncData) (ps : List Str), FnOk P w K mg base C k f fd ps sp ∧ mg x = some (.ref f) ∧ PySem.W.keepIn K (.ref f) = true ∧ Binds K fd ps []
section
variable {P : Program} {w : World} {K : PySem.W.Frag} {mg : Str → Option Value} {base : Heap} {k : Nat} {x : Str} {sp sp' : Sp} {C : CXT}
theorem Cal.mono (c : Cal P w K mg base C k x sp) {j : Nat} (h : k ≤ j) : Cal P w K mg base C j x sp := by
  obtain ⟨f, fd, ps, F, m, kp, b⟩ := c.ex
  exact ⟨f, fd, ps, F.mono h, m, kp, b⟩
theorem Cal.imp (c : Cal P w K mg base C k x sp) (h : ∀ vs H Q E, sp' vs H Q E → sp vs H Q E) : Cal P w K mg base C k x sp' := by
  obtain ⟨f, fd, ps, F, m, kp, b⟩ := c.ex
  exact ⟨f, fd, ps, F.imp h, m, kp, b⟩
/-- a def as the top leaves it -/
structure Def (K : PySem.W.Frag) (mg : Str → Option Value) (x : Str) (st : Stmt) (ps : List Str) : Prop where
  ex : ∃ (f : Addr) (fd : FuncData), L2.Fun K x x st f fd ∧ mg x = some (.ref f) ∧ Binds K fd ps []
theorem Def.ok {st : Stmt} {N ps : List Str} (D : Def K mg x st ps) (S : FnScope N ps (defScope st)) (len : ∀ vs H Q E, sp vs H Q E → vs.length = ps.length)
    (hbody : ∀ (f : Addr) (cdv : Value) (A : Around) (outer : List Env) (s : Shared) (H : Hp) (vs : List V) (Q : VK) (E : XK), Room k (A.deeper (envOfC x (defScope st) s.heap.objs.size f cdv)) → sp vs H Q E →
      ∃ t, PSs (cxOf CX0 P w K mg base N x (defScope st) f cdv A outer s H E).nox (defBody st) t ∧ t { nx := fun _ H' => Q .non H', rt := Q } (start N vs) H) : Cal P w K mg base CX0 (k + 1) x sp := by
  obtain ⟨f, fd, F, m, b⟩ := D.ex
  exact ⟨f, fd, ps, F.ok S len (hbody f), m, F.kp, b⟩
theorem Def.okX {st : Stmt} {N ps : List Str} (D : Def K mg x st ps) (S : FnScope N ps (defScope st)) (len : ∀ vs H Q E, sp vs H Q E → vs.length = ps.length)
    (hbody : ∀ (f : Addr) (cdv : Value) (A : Around) (outer : List Env) (s : Shared) (H : Hp) (vs : List V) (Q : VK) (E : XK), Room k (A.deeper (envOfC x (defScope st) s.heap.objs.size f cdv)) → sp vs H Q E →
      ∃ t, PSs (cxOf (L2.CX P w) P w K mg base N x (defScope st) f cdv A outer s H E) (defBody st) t ∧ t { nx := fun _ H' => Q .non H', rt := Q } (start N vs) H) : Cal P w K mg base (L2.CX P w) (k + 1) x sp := by
  obtain ⟨f, fd, F, m, b⟩ := D.ex
  exact ⟨f, fd, ps, F.okX S len (hbody f), m, F.kp, b⟩
end
section
variable {X : Cx} {k j : Nat} {x : Str} {sp : Sp} {p pos : Pos} {e : Expr} {es : List Expr} {t : TA} {C : CXT} {E : XK}
theorem pe_cE (c : Cal X.prog X.w X.K X.mg X.base C k x sp) (hr : Room j X.A) (hk : k ≤ j) (hx : Passes C X E) (hg : Gl X x) (ha : PA X (e :: es) t)
    (hdb : (x == ("__debug__" : Str)) = false := by decide) (he : starEach (e :: es) X.env = (false, eval e X.env) :: starEach es X.env := by rfl) (hpl : (backTo pos (starEach es X.env)).any (·.1) = false := by rfl) :
    PE X (.Call (.Name x p) (e :: es) [] pos) (tCall sp [] E t) := by
  obtain ⟨f, fd, ps, F, hm, kp, b⟩ := c.ex
  exact pe_call F (hr.mono hk) hg hm kp b .nil hx ha hdb he hpl
theorem pe_cE0 (c : Cal X.prog X.w X.K X.mg X.base C k x sp) (hr : Room j X.A) (hk : k ≤ j) (hx : Passes C X E) (hg : Gl X x)
    (hdb : (x == ("__debug__" : Str)) = false := by decide) : PE X (.Call (.Name x p) [] [] pos) (tCall sp [] E tNil) := by
  obtain ⟨f, fd, ps, F, hm, kp, b⟩ := c.ex
  exact pe_call0 F (hr.mono hk) hg hm kp b .nil hx hdb
/-- a def that lets nothing out -/
theorem pe_c (c : Cal X.prog X.w X.K X.mg X.base CX0 k x sp) (hr : Room j X.A) (hk : k ≤ j) (hg : Gl X x) (ha : PA X (e :: es) t)
    (hdb : (x == ("__debug__" : Str)) = false := by decide) (he : starEach (e :: es) X.env = (false, eval e X.env) :: starEach es X.env := by rfl) (hpl : (backTo pos (starEach es X.env)).any (·.1) = false := by rfl) :
    PE X (.Call (.Name x p) (e :: es) [] pos) (tCall sp [] E0 t) := pe_cE c hr hk pass0 hg ha hdb he hpl
theorem pe_c0 (c : Cal X.prog X.w X.K X.mg X.base CX0 k x sp) (hr : Room j X.A) (hk : k ≤ j) (hg : Gl X x)
    (hdb : (x == ("__debug__" : Str)) = false := by decide) : PE X (.Call (.Name x p) [] [] pos) (tCall sp [] E0 tNil) := pe_cE0 c hr hk pass0 hg hdb
end
section
variable {X : Cx} {k j : Nat} {x : Str} {sp : Sp} {p pos : Pos} {e : Expr} {es : List Expr} {t : TA} {C : CXT} {E : L2.St → XK}
/-- a call within a try -/
theorem pe_cS (c : Cal X.prog X.w X.K X.mg X.base C k x sp) (hr : Room j X.A) (hk : k ≤ j) (hg : Gl X x) (hx : ∀ σ, PassesAt C X σ (E σ)) (ha : PA X (e :: es) t)
    (hdb : (x == ("__debug__" : Str)) = false := by decide) (he : starEach (e :: es) X.env = (false, eval e X.env) :: starEach es X.env := by rfl) (hpl : (backTo pos (starEach es X.env)).any (·.1) = false := by rfl) : PE X (.Call (.Name x p) (e :: es) [] pos) (tCallS sp E t) := by
  obtain ⟨f, fd, ps, F, hm, kp, b⟩ := c.ex
  exact pe_callS F (hr.mono hk) hg hm kp b hx ha hdb he hpl
end
theorem hu64 {A : Around} {k : Nat} (hr : Room k A) : A.units + 64 < cLine := by have := hr.un; omega
/-! ### numbers -/
theorem small64 {n : Nat} (h : n ≤ 1000000) : n ≤ sizeLine := Nat.le_trans h (by decide)
theorem small64' {n : Nat} (h : n ≤ 1000000) : n < sizeLine := Nat.lt_of_le_of_lt h (by decide)
theorem shl1 {j : Int} (h : 0 ≤ j) (h2 : j ≤ 100000) : CShl 1 j := by
  obtain ⟨n, rfl⟩ := Int.eq_ofNat_of_zero_le h
  exact shl_ok (n := 1) (by decide) (by omega)
theorem shlN {i j : Int} (hi : i.natAbs < 2 ^ 1000) (h : 0 ≤ j) (h2 : j ≤ 100000) : CShl i j := by
  obtain ⟨n, rfl⟩ := Int.eq_ofNat_of_zero_le h
  exact shl_ok (n := 1000) hi (by omega)
theorem pow_pos2 (k : Nat) : (0 : Int) < 2 ^ k := PySem.W.kbt_pos k
/-! ### heaps -/
theorem Same.new {H : Hp} {p : Addr} {o : HO} (h : H p = none) : Same H (upd H p o) := fun b x e => by
  rw [upd_ne (ne_of_none e h)]; exact e
theorem SqL.new {K : PySem.W.Frag} {H : Hp} {p : Addr} {xs : List V} : SqL K (upd H p (.lst xs)) p xs := .inl (.inl upd_same)
theorem SqT.new {K : PySem.W.Frag} {H : Hp} {p : Addr} {xs : List V} : SqT K (upd H p (.tup xs)) p xs := .inl (.inl upd_same)

/-! ### operators in the words that the readings like -/
section
variable {X : Cx}
/-- i << j, i of a usual size -/
theorem op_shlS : OpR X (binaryOp .LShift) (fun x y H Q => ∃ i j : Int, x = .int i ∧ y = .int j ∧ (i.natAbs < 2 ^ 1000 ∧ 0 ≤ j ∧ j ≤ 100000) ∧ Q (.int (i * 2 ^ j.toNat)) H) := by
  intro pins s σ H x y v u Q I rx ry h
  obtain ⟨i, j, rfl, rfl, ⟨c0, c1, c2⟩, q⟩ := h
  exact op_shlW pins s σ H _ _ v u Q I rx ry ⟨i, j, rfl, rfl, shlN c0 c1 c2, q⟩
theorem nat_small {i : Int} (h : i.natAbs ≤ 18446744073709551616) : i.natAbs < 2 ^ 1000 := Nat.lt_of_le_of_lt h (by decide +kernel)
/-- 1 << j -/
theorem op_shl1 : OpR X (binaryOp .LShift) (fun x y H Q => ∃ j : Int, x = .int 1 ∧ y = .int j ∧ (0 ≤ j ∧ j ≤ 100000) ∧ Q (.int (2 ^ j.toNat)) H) := by
  intro pins s σ H x y v u Q I rx ry h
  obtain ⟨j, rfl, rfl, ⟨c1, c2⟩, q⟩ := h
  refine op_shlW pins s σ H _ _ v u Q I rx ry ⟨1, j, rfl, rfl, shl1 c1 c2, ?_⟩
  show Q (.int (1 * 2 ^ j.toNat)) H
  rw [Int.one_mul]; exact q
end
/-- isinstance(x, T) of a value of a type of its own -/
theorem isi_int {K : PySem.W.Frag} {H : Hp} {i : Int} {Q : VK} (q : Q (.bl true) H) : rIsi K [.int i, .ty "int"] H Q := ⟨.int i, .ty "int", _, _, true, rfl, .ty _, .base (.int _), kit_ty (by decide +kernel), q⟩
theorem isi_int_bool {K : PySem.W.Frag} {H : Hp} {i : Int} {Q : VK} (q : Q (.bl false) H) : rIsi K [.int i, .ty "bool"] H Q := ⟨.int i, .ty "bool", _, _, false, rfl, .ty _, .base (.int _), kit_ty (by decide +kernel), q⟩
theorem isi_list {K : PySem.W.Frag} {H : Hp} {a : Addr} {xs : List V} {Q : VK} (h : H a = some (.lst xs)) (q : Q (.bl true) H) : rIsi K [.ref a, .ty "list"] H Q := ⟨.ref a, .ty "list", _, _, true, rfl, .ty _, .base (.lst h), kit_ty (by decide +kernel), q⟩
theorem isi_tup {K : PySem.W.Frag} {H : Hp} {a : Addr} {xs : List V} {Q : VK} (h : H a = some (.tup xs)) (q : Q (.bl true) H) : rIsi K [.ref a, .ty "tuple"] H Q := ⟨.ref a, .ty "tuple", _, _, true, rfl, .ty _, .base (.tup h), kit_ty (by decide +kernel), q⟩
theorem isi_str {K : PySem.W.Frag} {H : Hp} {z : Str} {Q : VK} (q : Q (.bl true) H) : rIsi K [.str z, .ty "str"] H Q := ⟨.str z, .ty "str", _, _, true, rfl, .ty _, .base (.str _), kit_ty (by decide +kernel), q⟩
/-! ### lists of ints -/
theorem at_ints {ns : List Int} {k : Nat} (h : k < ns.length) : atI (ns.map V.int) (k : Int) = some (.int (ns.getD k 0)) := atI_nat (by
  rw [List.getElem?_map, List.getElem?_eq_getElem h, List.getD_eq_getElem?_getD, List.getElem?_eq_getElem h]; rfl)
theorem cut_to (xs : List V) (k : Nat) : cutV xs none (some (k : Int)) = xs.take k := by
  unfold cutV
  rw [HT.sIx_nat, HT.sIx_none, List.drop_zero, Nat.sub_zero]
  rcases Nat.le_total k xs.length with h | h
  · rw [Nat.min_eq_left h]
  · rw [Nat.min_eq_right h, List.take_length, List.take_of_length_le h]
theorem cut_from (xs : List V) (k : Nat) : cutV xs (some (k : Int)) none = xs.drop k := by
  unfold cutV
  rw [HT.sIx_nat, HT.sIx_none]
  rcases Nat.le_total k xs.length with h | h
  · rw [Nat.min_eq_left h]; exact List.take_of_length_le (by rw [List.length_drop]; exact Nat.le_refl _)
  · rw [Nat.min_eq_right h, Nat.sub_self, List.take_zero, List.drop_eq_nil_of_le h]
/-! ### a reading, gone through as far as it goes by sight -/
local macro_rules | `(tactic| walk_at "side") => `(tactic| first
  | (show _ = _; rfl)
  | (show (0 : Int) < _; first | omega | exact pow_pos2 _)
  | (show (0 : Int) ≤ _; omega)
  | (show (0 : Int) ≤ _ ∧ _; constructor <;> omega)
  | (show (0 : Int) < _ ∧ _; constructor <;> omega)
  | (show (_ < _ ∧ _ < _) ∨ (_ < _ ∧ _ < _); first | exact .inl ⟨by omega, by omega⟩ | exact .inr ⟨by omega, by omega⟩))
local macro_rules | `(tactic| walk_at "loop") => `(tactic| (show ∃ W : (Nat → Nat → L2.St → Hp → Prop), _))
local macro_rules | `(tactic| walk_at "go1") => `(tactic| (fail_if_success walk_at "loop"); first
  | refine And.intro (show (_ : Int) ≤ _ by omega) ?_
  | refine ⟨_, rfl, ?_⟩
  | refine ⟨_, _, rfl, rfl, ?_⟩
  | refine ⟨_, rfl, rfl, ?_⟩
  | refine .inl ⟨_, rfl, ?_⟩
  | refine ⟨_, .ty "int", _, _, true, rfl, .ty _, .base (.int _), kit_ty (by decide +kernel), ?_⟩
  | refine ⟨_, .ty "bool", _, _, false, rfl, .ty _, .base (.int _), kit_ty (by decide +kernel), ?_⟩
  | refine ⟨_, .ty "bool", _, _, false, rfl, .ty _, .base (.str _), kit_ty (by decide +kernel), ?_⟩
  | refine ⟨_, .ty "str", _, _, true, rfl, .ty _, .base (.str _), kit_ty (by decide +kernel), ?_⟩
  | refine ⟨_, .ty "list", _, _, true, rfl, .ty _, .base (.lst (by assumption)), kit_ty (by decide +kernel), ?_⟩
  | refine ⟨_, .ty "tuple", _, _, true, rfl, .ty _, .base (.tup (by assumption)), kit_ty (by decide +kernel), ?_⟩
  | refine ⟨_, _, rfl, .inl (by assumption), ?_⟩
  | refine ⟨_, _, rfl, .inr (by assumption), ?_⟩
  | refine ⟨_, _, rfl, ?_⟩
  | refine ⟨_, _, _, _, rfl, rfl, by assumption, at_ints (by omega), ?_⟩
  | refine ⟨_, _, _, _, rfl, rfl, by assumption, rfl, ?_⟩
  | refine iteF ?_
  | refine iteT ?_
  | refine iteNS rfl ?_
  | (refine And.intro ?h1 ?h2; case h1 => first
    | walk_at "side"
    | assumption
    | (show (_ : Nat) ≤ _; omega)
    | (show (_ : Int) ≤ _; omega)
    | (show (_ : Int) < _; omega)
    | (show 0 ≤ sizeLine; decide)
    | (show 1 ≤ sizeLine; decide)
    | (show 2 ≤ sizeLine; decide)
    | (show 3 ≤ sizeLine; decide)
    | (show 4 ≤ sizeLine; decide)
    | (show (_ : Nat) ≤ _; decide)))
local macro_rules | `(tactic| walk_at "go") => `(tactic| repeat walk_at "go1")
/-! ### tests that read alone, loops -/
theorem tor_b {t u : TT} {σ : L2.St} {H : Hp} {Q : Bool → Hp → Prop} (b1 b2 : Bool) (h1 : ∀ Q, Q b1 H → t σ H Q) (h2 : ∀ Q, Q b2 H → u σ H Q) (q : Q (b1 || b2) H) : tOr t u σ H Q := by
  refine h1 _ ?_
  cases b1 with
  | true => rw [if_pos rfl]; exact q
  | false => rw [if_neg (by decide)]; exact h2 _ q
theorem tand_b {t u : TT} {σ : L2.St} {H : Hp} {Q : Bool → Hp → Prop} (b1 b2 : Bool) (h1 : ∀ Q, Q b1 H → t σ H Q) (h2 : ∀ Q, Q b2 H → u σ H Q) (q : Q (b1 && b2) H) : tAnd t u σ H Q := by
  refine h1 _ ?_
  cases b1 with
  | true => rw [if_pos rfl]; exact h2 _ q
  | false => rw [if_neg (by decide)]; exact q
theorem while_ev {c : TT} {tb : TS} {D : Ends} {σ : L2.St} {H : Hp} (Pv : L2.St → Hp → Prop) (μ : L2.St → Hp → Nat) (h0 : Pv σ H)
    (hs : ∀ σ H, Pv σ H → ∃ b : Bool, (∀ Q, Q b H → c σ H Q) ∧ (b = true → tb { D with nx := fun σ' H' => Pv σ' H' ∧ μ σ' H' < μ σ H, ct := fun σ' H' => Pv σ' H' ∧ μ σ' H' < μ σ H, bk := D.nx } σ H) ∧ (b = false → D.nx σ H)) : tWhile c tb D σ H := by
  refine ⟨fun m σ H => m = μ σ H ∧ Pv σ H, ⟨_, rfl, h0⟩, ?_⟩
  rintro m σ H ⟨rfl, p⟩
  obtain ⟨b, h1, h2, h3⟩ := hs σ H p
  refine h1 _ ?_
  cases b with
  | true => exact ⟨_, fun σ' H' ⟨p', l⟩ => ⟨_, l, rfl, p'⟩, h2 rfl⟩
  | false => exact h3 rfl
/-- the loops' bookkeeping, with what follows and what returns told apart -/
theorem for_listD {K : PySem.W.Frag} {a : Addr} {xs : List V} {g : TG} {tb : TS} {nx : L2.St → Hp → Prop} {rt : VK} {σ : L2.St} {H : Hp} (Pv : Nat → L2.St → Hp → Prop) (h0 : Pv 0 σ H) (hl : ∀ i σ H, i ≤ xs.length → Pv i σ H → SqL K H a xs)
    (hs : ∀ i x σ H, xs[i]? = some x → Pv i σ H → g x σ H fun σ2 H2 => tb { nx := Pv (i + 1), rt := rt, bk := nx, ct := Pv (i + 1) } σ2 H2) (hd : ∀ σ H, Pv xs.length σ H → nx σ H) :
    ∃ W : Nat → Nat → L2.St → Hp → Prop, (∃ m, W 0 m σ H) ∧ ∀ i m σ H, W i m σ H → ((Itl K a).stop i H ∧ nx σ H) ∨ ((Itl K a).go i H ∧ ∃ N : L2.St → Hp → Prop, (∀ σ' H', N σ' H' → ∃ m', m' < m ∧ W (i + 1) m' σ' H') ∧
      ∀ x H', (Itl K a).yld i H x H' → g x σ H' fun σ2 H2 => tb { nx := N, rt := rt, bk := nx, ct := N } σ2 H2) := for_list (D := { nx := nx, rt := rt }) Pv h0 hl hs hd
theorem for_rangeD {lo : Int} {n : Nat} {g : TG} {tb : TS} {nx : L2.St → Hp → Prop} {rt : VK} {σ : L2.St} {H : Hp} (Pv : Nat → L2.St → Hp → Prop) (h0 : Pv 0 σ H)
    (hs : ∀ i σ H, i < n → Pv i σ H → g (.int (lo + i)) σ H fun σ2 H2 => tb { nx := Pv (i + 1), rt := rt, bk := nx, ct := Pv (i + 1) } σ2 H2) (hd : ∀ σ H, Pv n σ H → nx σ H) :
    ∃ W : Nat → Nat → L2.St → Hp → Prop, (∃ m, W 0 m σ H) ∧ ∀ i m σ H, W i m σ H → ((Itr lo n).stop i H ∧ nx σ H) ∨ ((Itr lo n).go i H ∧ ∃ N : L2.St → Hp → Prop, (∀ σ' H', N σ' H' → ∃ m', m' < m ∧ W (i + 1) m' σ' H') ∧
      ∀ x H', (Itr lo n).yld i H x H' → g x σ H' fun σ2 H2 => tb { nx := N, rt := rt, bk := nx, ct := N } σ2 H2) := for_range (D := { nx := nx, rt := rt }) Pv h0 hs hd
/-! ### a comprehension that makes f of each item -/
theorem lc_map {K : PySem.W.Frag} {a : Addr} {xs : List V} {j : Nat} {te : TE} {σ : L2.St} {H1 : Hp} {D : Addr} {Qd : Hp → Prop} (f : V → V) (hD : H1 D = none) (hS : SqL K H1 a xs) (hn : xs.length ≤ 100000)
    (hs : ∀ x H Q, x ∈ xs → Same H1 H → (∀ H', Same H H' → Q (f x) H') → te ((σ.set j none).set j (some x)) H Q) (hd : ∀ H, Same H1 H → H D = some (.lst (xs.map f)) → Qd H) :
    ∃ W : Nat → Nat → Hp → Prop, (∃ m, W 0 m (upd H1 D (.lst []))) ∧ ∀ i m H, W i m H →
      ((Itl K a).stop i H ∧ Qd H) ∨ ((Itl K a).go i H ∧ ∃ Nx : Hp → Prop, (∀ H', Nx H' → ∃ m', m' < m ∧ W (i + 1) m' H') ∧ ∀ x H', (Itl K a).yld i H x H' → gName j x (wipe σ [j]) H' fun σ2 H2 => wipe σ2 [j] = wipe σ [j] ∧ tYes σ2 H2 fun b H3 =>
        if b = true then te σ2 H3 fun y H4 => ∃ acc, H4 D = some (.lst acc) ∧ acc.length < sizeLine ∧ Nx (upd H4 D (.lst (acc ++ [y]))) else Nx H3) := by
  refine lc_list (xs := xs) (fun i H => Same H1 H ∧ H D = some (.lst ((xs.take i).map f))) ⟨Same.new hD, by rw [upd_same]; rfl⟩ (fun i H _ h => h.1.seq hS) (fun i x H hx h => ?_) (fun H h => hd H h.1 (by rw [List.take_length] at h; exact h.2))
  have hi : i < xs.length := (List.getElem?_eq_some_iff.mp hx).1
  refine ⟨?_, ?_⟩
  · show (((σ.set j none).set j (some x)).set j none) = σ.set j none
    rw [List.set_set, List.set_set]
  · simp only [tYes, if_true]
    refine hs x H _ (List.mem_of_getElem? hx) h.1 fun H' s' => ?_
    refine ⟨_, s' _ _ h.2, ?_, fun b o e => ?_, ?_⟩
    · rw [List.length_map, List.length_take]; exact small64' (by omega)
    · have nb : b ≠ D := fun z => by rw [z, hD] at e; cases e
      rw [upd_ne nb]; exact s' _ _ (h.1 _ _ e)
    · rw [upd_same, List.take_add_one, hx, List.map_append]; rfl

/-! ### own errors with fields -/
/-- what the top has written of an own error's class, whose base is ValueError by some way -/
structure ExK (K : PySem.W.Frag) (mg : Str → Option Value) (x : Str) (C : Addr) : Prop where
  g : mg x = some (.ref C)
  T : OexC K C
  ga : PySem.W.findIn K (.ref C) "__getattribute__" = some (some (.builtin "BaseException.__getattribute__"))
  gg : PySem.W.findIn K (.ref C) "__getattr__" = some none
  hd : PySem.W.hasDictIn K C = true
  ca : PySem.W.findIn K (.ref C) "__class__" = some (some (.builtin "object.__class__"))
  sp : PySem.W.specialIn K (.builtin "object.__class__") "__get__" = some (some (.builtin "getset_descriptor.__get__"))
  tk : PySem.W.takesIn K (.builtin "object.__class__") = some true
  mr : PySem.W.mroIn K C (.type "object") = some true
theorem ExK.xf {K : PySem.W.Frag} {mg : Str → Option Value} {x : Str} {C : Addr} (k : ExK K mg x C) : XfC K C := ⟨k.ga, k.gg, k.T.exC, k.hd⟩
def spI1 (K : PySem.W.Frag) (C : Addr) (a : Str) : Sp := fun vs H Q _ => ∃ (s : Addr) (v : V), vs = [.ref s, v] ∧ H s = some (exo s C none) ∧
  ∀ d, H d = none → d ≠ s → Q .non (upd (upd H d (exd d [(a, v)])) s (exo s C (some d)))
def spI2 (K : PySem.W.Frag) (C : Addr) (a b : Str) : Sp := fun vs H Q _ => ∃ (s : Addr) (v u : V), vs = [.ref s, v, u] ∧ H s = some (exo s C none) ∧
  ∀ d, H d = none → d ≠ s → Q .non (upd (upd (upd H d (exd d [(a, v)])) s (exo s C (some d))) d (exd d [(b, u), (a, v)]))
theorem del_upd {H : Hp} {s d : Addr} {o o' : HO} (hs : H s = none) (hd : H d = none) (ne : d ≠ s) {K : Hp} (hK : ∀ b, b ≠ s → b ≠ d → K b = H b) : Same H (upd (del K s) d o) := fun b x e => by
  have nd : b ≠ d := ne_of_none e hd
  have ns : b ≠ s := ne_of_none e hs
  rw [upd_ne nd, del_ne ns, hK b ns nd]; exact e
/-- X(v): an error flies whose dict, new at d, holds the field; all else stands -/
theorem fly1 {K : PySem.W.Frag} {C : Addr} {a : Str} {v : V} {H : Hp} {Q : XK} (h : ∀ d Hf, Same H Hf → Hf d = some (.xd [(a, v)]) → Q (.ref C) (some d) Hf) :
    ([v] : List V).length ≤ 1000 ∧ ∀ s, H s = none → spI1 K C a (.ref s :: ([v] ++ [])) (upd H s (exo s C none))
      (fun v H2 => v = .non ∧ ∃ (d : Addr) (fs : List (Str × V)), H2 s = some (exo s C (some d)) ∧ H2 d = some (exd d fs) ∧ H d = none ∧ Q (.ref C) (some d) (upd (del H2 s) d (.xd fs))) (fun _ _ _ => False) := by
  refine ⟨by show 1 ≤ 1000; decide, fun s hs => ⟨s, v, rfl, upd_same, fun d hd ne => ⟨rfl, d, [(a, v)], upd_same, ?_, ?_, ?_⟩⟩⟩
  · rw [upd_ne ne, upd_same]
  · rw [upd_ne ne] at hd; exact hd
  · have hd' : H d = none := by rw [upd_ne ne] at hd; exact hd
    refine h d _ (del_upd (o' := .lst []) hs hd' ne fun b nb nd => ?_) upd_same
    rw [upd_ne nb, upd_ne nd, upd_ne nb]
theorem fly2 {K : PySem.W.Frag} {C : Addr} {a b : Str} {v u : V} {H : Hp} {Q : XK} (h : ∀ d Hf, Same H Hf → Hf d = some (.xd [(b, u), (a, v)]) → Q (.ref C) (some d) Hf) :
    ([v, u] : List V).length ≤ 1000 ∧ ∀ s, H s = none → spI2 K C a b (.ref s :: ([v, u] ++ [])) (upd H s (exo s C none))
      (fun v H2 => v = .non ∧ ∃ (d : Addr) (fs : List (Str × V)), H2 s = some (exo s C (some d)) ∧ H2 d = some (exd d fs) ∧ H d = none ∧ Q (.ref C) (some d) (upd (del H2 s) d (.xd fs))) (fun _ _ _ => False) := by
  refine ⟨by show 2 ≤ 1000; decide, fun s hs => ⟨s, v, u, rfl, upd_same, fun d hd ne => ⟨rfl, d, [(b, u), (a, v)], ?_, upd_same, ?_, ?_⟩⟩⟩
  · rw [upd_ne ne.symm, upd_same]
  · rw [upd_ne ne] at hd; exact hd
  · have hd' : H d = none := by rw [upd_ne ne] at hd; exact hd
    refine h d _ (del_upd (o' := .lst []) hs hd' ne fun b nb nd => ?_) upd_same
    rw [upd_ne nd, upd_ne nb, upd_ne nd, upd_ne nb]
section
variable {P : Program} {w : World} {K : PySem.W.Frag} {mg : Str → Option Value} {base : Heap} {C f : Addr} {fd : FuncData} {qual : Str}
/-- an __init__ that stores its one parameter, its two parameters, under their names -/
theorem init1 {st : Stmt} {a : Str} (F : L2.Fun K "__init__" qual st f fd) (S : FnScope ["self", a] ["self", a] (defScope st)) (T : OexC K C) (na : PySem.W.findIn K (.ref C) a = some none) {p1 p2 p3 p4 : Pos} (hb : defBody st = [.Assign [.Attribute (.Name "self" p1) a p2] (.Name a p3) p4])
    (va : Vis (defScope st) a) (vs : Vis (defScope st) "self") (d1 : (a == ("__debug__" : Str)) = false) (d2 : (a == ("__classdict__" : Str)) = false) : FnOk P w K mg base CX0 1 f fd ["self", a] (spI1 K C a) := by
  refine F.ok S (fun vs H Q E h => ?_) (fun cdv A outer s H vs Q E hr h => ?_)
  · obtain ⟨s, v, rfl, _⟩ := h; rfl
  · obtain ⟨s, v, rfl, hs, q⟩ := h
    rw [hb]
    refine ⟨_, pss_one (ps_ost (pe_var (i := 0) rfl (by assumption)) (pe_var (i := 1) rfl (by assumption) d1 d2)), ?_⟩
    exact ⟨_, rfl, _, rfl, s, C, rfl, T, na, .inl ⟨hs, fun d hd ne => q d hd ne⟩⟩
theorem init2 {st : Stmt} {a b : Str} (F : L2.Fun K "__init__" qual st f fd) (S : FnScope ["self", a, b] ["self", a, b] (defScope st)) (T : OexC K C) (na : PySem.W.findIn K (.ref C) a = some none) (nb : PySem.W.findIn K (.ref C) b = some none) {p1 p2 p3 p4 q1 q2 q3 q4 : Pos}
    (hb : defBody st = [.Assign [.Attribute (.Name "self" p1) a p2] (.Name a p3) p4, .Assign [.Attribute (.Name "self" q1) b q2] (.Name b q3) q4])
    (va : Vis (defScope st) a) (vb : Vis (defScope st) b) (vs : Vis (defScope st) "self") (d1 : (a == ("__debug__" : Str)) = false) (d2 : (a == ("__classdict__" : Str)) = false) (d3 : (b == ("__debug__" : Str)) = false) (d4 : (b == ("__classdict__" : Str)) = false) : FnOk P w K mg base CX0 1 f fd ["self", a, b] (spI2 K C a b) := by
  refine F.ok S (fun vs H Q E h => ?_) (fun cdv A outer s H vs Q E hr h => ?_)
  · obtain ⟨s, v, u, rfl, _⟩ := h; rfl
  · obtain ⟨s, v, u, rfl, hs, q⟩ := h
    rw [hb]
    refine ⟨_, pss_cons (ps_ost (pe_var (i := 0) rfl (by assumption)) (pe_var (i := 1) rfl (by assumption) d1 d2)) (pss_one (ps_ost (pe_var (i := 0) rfl (by assumption)) (pe_var (i := 2) rfl (by assumption) d3 d4))), ?_⟩
    refine ⟨_, rfl, _, rfl, s, C, rfl, T, na, .inl ⟨hs, fun d hd ne => ?_⟩⟩
    exact ⟨_, rfl, _, rfl, s, C, rfl, T, nb, .inr ⟨d, _, upd_same, by rw [upd_ne ne, upd_same], (by show 1 ≤ 900; decide), q d hd ne⟩⟩
end
/-- isinstance(e, c), e the caught error at a, of the class D, its dict at dd -/
theorem call_isX {X : Cx} {a D : Addr} {oe : Obj} {cls : Value} {d : Option Addr} {pn : List (Addr × Obj)} (hz : Zc cls d oe) (hf : ∃ vs, oe.data = .fields vs) {x : Str} (k : ExK X.K X.mg x D) : CallR (X.suite a ((a, oe) :: pn)) (.builtin "isinstance")
    (fun xs H Q => ∃ (c : V) (cv : Value) (b : Bool) (dd : Addr) (fs : List (Str × V)), xs = [.ref a, c] ∧ cls = .ref D ∧ d = some dd ∧ H dd = some (.xd fs) ∧ RelV c cv ∧ (∀ u, RelV c u → u = cv) ∧ PySem.W.kitOne X.K (.ref D) cv = some b ∧ Q (.bl b) H) := by
  intro pins s σ H xs us Q I r h
  obtain ⟨c, cv, b, dd, fs, rfl, rfl, rfl, ea, _, hcv, e, q⟩ := h
  obtain ⟨u1, u2, rfl, r1, r2⟩ := vals2 r
  cases r1
  have ec := hcv _ r2
  subst ec
  obtain ⟨hget, _⟩ := I.pin (a, oe) (List.mem_append.mpr (.inl List.mem_cons_self))
  obtain ⟨vs, hv⟩ := hf
  have hx : ObjOk X.prog X.w H s.heap dd (.xd fs) := I.hok dd _ ea
  obtain ⟨mA, ⟨od, es, ep, ho, hl⟩, hr⟩ := hx
  have J : PySem.W.InstAt s.heap a oe D (some od) := ⟨hget, hz.1, by unfold PySem.W.notCls; rw [hv] <;> rfl, by rw [hz.2]; exact ho⟩
  have hc : (PySem.W.clsIn X.K D).isSome = true := by
    have h := k.hd
    unfold PySem.W.hasDictIn at h
    cases hh : PySem.W.clsIn X.K D with
    | none => rw [hh] at h; cases h
    | some cd => rfl
  exact PySem.W.kia_one (PySem.W.kitx_exc hc k.ga k.gg k.T.exC k.ca k.sp k.tk k.mr) I.kIn J e (fun z => nomatch z) fun tk => ⟨.bl b, H, I.kept (t' := tk) fun _ _ z => z, rfl, q⟩
/-- what isinstance and an except clause ask of own classes -/
theorem kit_self {K : PySem.W.Frag} {C : Addr} : PySem.W.kitOne K (.ref C) (.ref C) = some true := by
  unfold PySem.W.kitOne
  rw [if_pos (by exact beq_self_eq_true (Value.ref C))]
theorem kit_two {K : PySem.W.Frag} {D C : Addr} {b : Bool} (ne : (Value.ref D == Value.ref C) = false) (hd : PySem.W.hasDictIn K C = true) (ht : PySem.W.typeIn K (.ref C) = some (.type "type")) (hs : PySem.W.subIn K (.ref D) (.ref C) = some b) : PySem.W.kitOne K (.ref D) (.ref C) = some b := by
  have hc : (PySem.W.clsIn K C).isSome = true := by
    unfold PySem.W.hasDictIn at hd
    cases hh : PySem.W.clsIn K C with
    | none => rw [hh] at hd; cases hd
    | some cd => rfl
  unfold PySem.W.kitOne PySem.W.kitCls
  rw [ne, if_neg (by decide)]
  show (if ((PySem.W.clsIn K C).isSome && PySem.W.typeIn K (.ref C) == some (.type "type")) = true then PySem.W.subIn K (.ref D) (.ref C) else none) = some b
  rw [hc, ht, hs]; rfl
theorem kit_ve {K : PySem.W.Frag} {D : Addr} (hs : PySem.W.subIn K (.ref D) (.type "ValueError") = some true) : PySem.W.kitOne K (.ref D) (.type "ValueError") = some true := by
  unfold PySem.W.kitOne PySem.W.kitCls
  rw [show (Value.ref D == Value.type "ValueError") = false from rfl, if_neg (by decide)]
  show (if PySem.W.kitMeta "ValueError" = true then PySem.W.subIn K (.ref D) (.type "ValueError") else none) = some true
  rw [if_pos (by decide +kernel), hs]

/-! ### methods and makers of own classes -/
structure DefM (K : PySem.W.Frag) (C : Addr) (m qual : Str) (st : Stmt) (ps : List Str) : Prop where
  ex : ∃ (f : Addr) (fd : FuncData), L2.Fun K m qual st f fd ∧ Meth K C m f ∧ Binds K fd ps []
structure DefI (K : PySem.W.Frag) (C : Addr) (qual : Str) (st : Stmt) (ps : List Str) : Prop where
  ex : ∃ (f : Addr) (fd : FuncData), L2.Fun K "__init__" qual st f fd ∧ Mk K C f ∧ Binds K fd ps []
structure CalM (P : Program) (w : World) (K : PySem.W.Frag) (mg : Str → Option Value) (base : Heap) (CX : CXT) (C : Addr) (k : Nat) (m : Str) (sp : Sp) : Prop where
  ex : ∃ (f : Addr) (fd : FuncData) (ps : List Str), FnOk P w K mg base CX k f fd ps sp ∧ Cls K C ∧ Meth K C m f ∧ Binds K fd ps []
structure CalI (P : Program) (w : World) (K : PySem.W.Frag) (mg : Str → Option Value) (base : Heap) (CX : CXT) (C : Addr) (k : Nat) (sp : Sp) : Prop where
  ex : ∃ (f : Addr) (fd : FuncData) (ps : List Str), FnOk P w K mg base CX k f fd ps sp ∧ Mk K C f ∧ Binds K fd ps []
section
variable {P : Program} {w : World} {K : PySem.W.Frag} {mg : Str → Option Value} {base : Heap} {k : Nat} {x m qual : Str} {sp sp' : Sp} {C : Addr}
theorem Def.none {st : Stmt} {N ps : List Str} (D : Def K mg x st ps) (S : FnScope N ps (defScope st)) : Cal P w K mg base CX0 (k + 1) x (fun _ _ _ _ => False) := D.ok S (fun _ _ _ _ h => h.elim) (fun _ _ _ _ _ _ _ _ _ _ h => h.elim)
theorem Def.noneX {st : Stmt} {N ps : List Str} (D : Def K mg x st ps) (S : FnScope N ps (defScope st)) : Cal P w K mg base (L2.CX P w) (k + 1) x (fun _ _ _ _ => False) := D.okX S (fun _ _ _ _ h => h.elim) (fun _ _ _ _ _ _ _ _ _ _ h => h.elim)
theorem DefM.ok {st : Stmt} {N ps : List Str} (D : DefM K C m qual st ps) (S : FnScope N ps (defScope st)) (cl : Cls K C) (len : ∀ vs H Q E, sp vs H Q E → vs.length = ps.length)
    (hbody : ∀ (f : Addr) (cdv : Value) (A : Around) (outer : List Env) (s : Shared) (H : Hp) (vs : List V) (Q : VK) (E : XK), Room k (A.deeper (envOfC qual (defScope st) s.heap.objs.size f cdv)) → sp vs H Q E →
      ∃ t, PSs (cxOf CX0 P w K mg base N qual (defScope st) f cdv A outer s H E).nox (defBody st) t ∧ t { nx := fun _ H' => Q .non H', rt := Q } (start N vs) H) : CalM P w K mg base CX0 C (k + 1) m sp := by
  obtain ⟨f, fd, F, mm, b⟩ := D.ex
  exact ⟨f, fd, ps, F.ok S len (hbody f), cl, mm, b⟩
theorem DefM.okX {st : Stmt} {N ps : List Str} (D : DefM K C m qual st ps) (S : FnScope N ps (defScope st)) (cl : Cls K C) (len : ∀ vs H Q E, sp vs H Q E → vs.length = ps.length)
    (hbody : ∀ (f : Addr) (cdv : Value) (A : Around) (outer : List Env) (s : Shared) (H : Hp) (vs : List V) (Q : VK) (E : XK), Room k (A.deeper (envOfC qual (defScope st) s.heap.objs.size f cdv)) → sp vs H Q E →
      ∃ t, PSs (cxOf (L2.CX P w) P w K mg base N qual (defScope st) f cdv A outer s H E) (defBody st) t ∧ t { nx := fun _ H' => Q .non H', rt := Q } (start N vs) H) : CalM P w K mg base (L2.CX P w) C (k + 1) m sp := by
  obtain ⟨f, fd, F, mm, b⟩ := D.ex
  exact ⟨f, fd, ps, F.okX S len (hbody f), cl, mm, b⟩
theorem DefI.ok {st : Stmt} {N ps : List Str} (D : DefI K C qual st ps) (S : FnScope N ps (defScope st)) (len : ∀ vs H Q E, sp vs H Q E → vs.length = ps.length)
    (hbody : ∀ (f : Addr) (cdv : Value) (A : Around) (outer : List Env) (s : Shared) (H : Hp) (vs : List V) (Q : VK) (E : XK), Room k (A.deeper (envOfC qual (defScope st) s.heap.objs.size f cdv)) → sp vs H Q E →
      ∃ t, PSs (cxOf CX0 P w K mg base N qual (defScope st) f cdv A outer s H E).nox (defBody st) t ∧ t { nx := fun _ H' => Q .non H', rt := Q } (start N vs) H) : CalI P w K mg base CX0 C (k + 1) sp := by
  obtain ⟨f, fd, F, mm, b⟩ := D.ex
  exact ⟨f, fd, ps, F.ok S len (hbody f), mm, b⟩
end
section
variable {X : Cx} {k j : Nat} {x m : Str} {sp : Sp} {p pos apos : Pos} {o e : Expr} {es : List Expr} {ta : TE} {t : TA} {CX : CXT} {E : XK} {C : Addr}
theorem pe_mE {pl : Sem Bool} (c : CalM X.prog X.w X.K X.mg X.base CX C k m sp) (hr : Room j X.A) (hk : k ≤ j) (hx : Passes CX X E) (he : PE X o ta) (ha : PA X (e :: es) t)
    (hst : starEach (e :: es) X.env = (false, eval e X.env) :: starEach es X.env := by rfl) (hpl : (backTo pos (starEach es X.env)).any (·.1) = false := by rfl)
    (ht : eval (.Call (.Attribute o m apos) (e :: es) [] pos) X.env = (do
      let ov ← eval o X.env
      standAt apos.atName
      let (f, first) ← holding [ov] (getMethod ov m pl)
      callWith pos f first (backTo pos (starEach (e :: es) X.env)) (backToKw pos (keywordEach [] X.env))) := by rfl) :
    PE X (.Call (.Attribute o m apos) (e :: es) [] pos) (tMeth C m sp [] E ta t) := by
  obtain ⟨f, fd, ps, F, cl, mm, b⟩ := c.ex
  exact pe_meth (pl := pl) he cl mm F (hr.mono hk) b .nil hx ha hst hpl ht
theorem pe_mE0 {pl : Sem Bool} (c : CalM X.prog X.w X.K X.mg X.base CX C k m sp) (hr : Room j X.A) (hk : k ≤ j) (hx : Passes CX X E) (he : PE X o ta)
    (ht : eval (.Call (.Attribute o m apos) [] [] pos) X.env = (do
      let ov ← eval o X.env
      standAt apos.atName
      let (f, first) ← holding [ov] (getMethod ov m pl)
      callWith pos f first (backTo pos (starEach [] X.env)) (backToKw pos (keywordEach [] X.env))) := by rfl) :
    PE X (.Call (.Attribute o m apos) [] [] pos) (tMeth C m sp [] E ta tNil) := by
  obtain ⟨f, fd, ps, F, cl, mm, b⟩ := c.ex
  exact pe_meth0 (pl := pl) he cl mm F (hr.mono hk) b .nil hx ht
theorem pe_nw (c : CalI X.prog X.w X.K X.mg X.base CX0 C k sp) (hr : Room j X.A) (hk : k + 1 ≤ j) (hg : Gl X x) (hm : X.mg x = some (.ref C)) (ha : PA X (e :: es) t)
    (hdb : (x == ("__debug__" : Str)) = false := by decide) (he : starEach (e :: es) X.env = (false, eval e X.env) :: starEach es X.env := by rfl) (hpl : (backTo pos (starEach es X.env)).any (·.1) = false := by rfl) :
    PE X (.Call (.Name x p) (e :: es) [] pos) (tMake C sp [] E0 t) := by
  obtain ⟨f, fd, ps, F, mm, b⟩ := c.ex
  exact pe_make mm F (hr.mono hk) hg hm b .nil pass0 ha hdb he hpl
theorem pe_nw0 (c : CalI X.prog X.w X.K X.mg X.base CX0 C k sp) (hr : Room j X.A) (hk : k + 1 ≤ j) (hg : Gl X x) (hm : X.mg x = some (.ref C))
    (hdb : (x == ("__debug__" : Str)) = false := by decide) : PE X (.Call (.Name x p) [] [] pos) (tMake C sp [] E0 tNil) := by
  obtain ⟨f, fd, ps, F, mm, b⟩ := c.ex
  exact pe_make0 mm F (hr.mono hk) hg hm b .nil pass0 hdb
end
/-- the heap behind a change of some objects: all others stand -/
def SameBut (ps : List Addr) (H H' : Hp) : Prop := ∀ b o, b ∉ ps → H b = some o → H' b = some o
theorem Same.but {ps : List Addr} {H H' : Hp} (s : Same H H') : SameBut ps H H' := fun b o _ e => s b o e
theorem SameBut.refl {ps : List Addr} (H : Hp) : SameBut ps H H := fun _ _ _ e => e
theorem SameBut.trans {ps : List Addr} {H1 H2 H3 : Hp} (a : SameBut ps H1 H2) (b : SameBut ps H2 H3) : SameBut ps H1 H3 := fun c o n e => b c o n (a c o n e)
theorem SameBut.upd {ps : List Addr} {H H' : Hp} {a : Addr} {o : HO} (s : SameBut ps H H') (h : a ∈ ps) : SameBut ps H (upd H' a o) := fun b x n e => by
  have nb : b ≠ a := fun z => n (z ▸ h)
  rw [upd_ne nb]; exact s b x n e
theorem lk_hd {k : Str} {v : V} {r : List (Str × V)} : ((k, v) :: r).lookup k = some v := by
  simp [List.lookup]
theorem lk_tl {k a : Str} {v : V} {r : List (Str × V)} (h : ¬ k = a) : ((a, v) :: r).lookup k = r.lookup k := by
  show (match k == a with | true => some v | false => r.lookup k) = _
  rw [beq_eq_false_iff_ne.mpr h]
theorem pt_hd {k : Str} {v x : V} {r : List (Str × V)} : putF k v ((k, x) :: r) = (k, v) :: r := if_pos rfl
theorem pt_tl {k a : Str} {v x : V} {r s : List (Str × V)} (h : ¬ a = k) (e : putF k v r = s) : putF k v ((a, x) :: r) = (a, x) :: s := (if_neg h).trans (congrArg _ e)
theorem pt_nl {k : Str} {v : V} : putF k v [] = [(k, v)] := rfl
theorem made_same {H H2 : Hp} {x dx C : Addr} (nx : H x = none) (nd : H dx = none) (s : SameBut [x] (upd (upd H dx (.own x)) x (.ins C dx [])) H2) : Same H H2 := fun b o e => by
  have n1 : b ≠ x := ne_of_none e nx
  have n2 : b ≠ dx := ne_of_none e nd
  exact s b o (fun z => n1 (List.mem_singleton.mp z)) (by rw [upd_ne n1, upd_ne n2]; exact e)
theorem SameBut.new {ps : List Addr} {H H3 H4 : Hp} {t : Addr} (b3 : SameBut ps H H3) (b4 : SameBut [t] H3 H4) (h : H t = none) : SameBut ps H H4 := fun c o n e =>
  b4 c o (fun z => by rw [List.mem_singleton.mp z, h] at e; cases e) (b3 c o n e)
theorem Same.of_but {ps : List Addr} {H H1 H2 : Hp} (s : Same H H1) (b : SameBut ps H1 H2) (h : ∀ a ∈ ps, H a = none) : Same H H2 := fun c o e =>
  b c o (fun z => by rw [h c z] at e; cases e) (s c o e)
theorem SameBut.mono {ps qs : List Addr} {H H' : Hp} (s : SameBut ps H H') (h : ∀ a ∈ ps, a ∈ qs) : SameBut qs H H' := fun b o n e => s b o (fun z => n (h b z)) e

/-! ### written tables of the module -/
/-- a statement that is never come to -/
def tNever : TS := fun _ _ _ => False
theorem ps_never {X : Cx} {s : Stmt} : PS X s tNever := ⟨fun _ _ _ _ _ _ h => h.elim⟩
theorem sqT_same {K : PySem.W.Frag} {H H' : Hp} {a : Addr} {xs : List V} (e : Same H H') (h : SqT K H a xs) : SqT K H' a xs := by
  rcases h with (h | ⟨o, h⟩) | h
  · exact .inl (.inl (e _ _ h))
  · exact .inl (.inr ⟨o, e _ _ h⟩)
  · exact .inr h
/-- a comprehension over a tuple -/
theorem lc_mapT {K : PySem.W.Frag} {a : Addr} {xs : List V} {j : Nat} {te : TE} {σ : L2.St} {H1 : Hp} {D : Addr} {Qd : Hp → Prop} (f : V → V) (hD : H1 D = none) (hS : SqT K H1 a xs) (hn : xs.length ≤ 100000)
    (hs : ∀ x H Q, x ∈ xs → Same H1 H → (∀ H', Same H H' → Q (f x) H') → te ((σ.set j none).set j (some x)) H Q) (hd : ∀ H, Same H1 H → H D = some (.lst (xs.map f)) → Qd H) :
    ∃ W : Nat → Nat → Hp → Prop, (∃ m, W 0 m (upd H1 D (.lst []))) ∧ ∀ i m H, W i m H →
      ((Itt K a).stop i H ∧ Qd H) ∨ ((Itt K a).go i H ∧ ∃ Nx : Hp → Prop, (∀ H', Nx H' → ∃ m', m' < m ∧ W (i + 1) m' H') ∧ ∀ x H', (Itt K a).yld i H x H' → gName j x (wipe σ [j]) H' fun σ2 H2 => wipe σ2 [j] = wipe σ [j] ∧ tYes σ2 H2 fun b H3 =>
        if b = true then te σ2 H3 fun y H4 => ∃ acc, H4 D = some (.lst acc) ∧ acc.length < sizeLine ∧ Nx (upd H4 D (.lst (acc ++ [y]))) else Nx H3) := by
  refine lc_tup (xs := xs) (fun i H => Same H1 H ∧ H D = some (.lst ((xs.take i).map f))) ⟨Same.new hD, by rw [upd_same]; rfl⟩ (fun i H _ h => sqT_same h.1 hS) (fun i x H hx h => ?_) (fun H h => hd H h.1 (by rw [List.take_length] at h; exact h.2))
  have hi : i < xs.length := (List.getElem?_eq_some_iff.mp hx).1
  refine ⟨?_, ?_⟩
  · show (((σ.set j none).set j (some x)).set j none) = σ.set j none
    rw [List.set_set, List.set_set]
  · simp only [tYes, if_true]
    refine hs x H _ (List.mem_of_getElem? hx) h.1 fun H' s' => ?_
    refine ⟨_, s' _ _ h.2, ?_, fun b o e => ?_, ?_⟩
    · rw [List.length_map, List.length_take]; exact small64' (by omega)
    · have nb : b ≠ D := fun z => by rw [z, hD] at e; cases e
      rw [upd_ne nb]; exact s' _ _ (h.1 _ _ e)
    · rw [upd_same, List.take_add_one, hx, List.map_append]; rfl
theorem for_zipD {K : PySem.W.Frag} {a b : Addr} {xs ys : List V} {g : TG} {tb : TS} {nx : L2.St → Hp → Prop} {rt : VK} {σ : L2.St} {H : Hp} (hl : xs.length = ys.length) (Pv : Nat → L2.St → Hp → Prop) (h0 : Pv 0 σ H) (hq : ∀ i σ H, Pv i σ H → SqT K H a xs ∧ SqT K H b ys)
    (hs : ∀ (i : Nat) (x y : V) (T : Addr) (σ : L2.St) (H : Hp), xs[i]? = some x → ys[i]? = some y → Pv i σ H → H T = none → g (.ref T) σ (upd H T (.tup [x, y])) fun σ2 H2 => tb { nx := Pv (i + 1), rt := rt, bk := nx, ct := Pv (i + 1) } σ2 H2) (hd : ∀ σ H, Pv xs.length σ H → nx σ H) :
    ∃ W : Nat → Nat → L2.St → Hp → Prop, (∃ m, W 0 m σ H) ∧ ∀ i m σ H, W i m σ H → ((RZ.ItzT K a b).stop i H ∧ nx σ H) ∨ ((RZ.ItzT K a b).go i H ∧ ∃ N : L2.St → Hp → Prop, (∀ σ' H', N σ' H' → ∃ m', m' < m ∧ W (i + 1) m' σ' H') ∧
      ∀ x H', (RZ.ItzT K a b).yld i H x H' → g x σ H' fun σ2 H2 => tb { nx := N, rt := rt, bk := nx, ct := N } σ2 H2) := RZ.for_zipT (D := { nx := nx, rt := rt }) hl Pv h0 hq hs hd
/-- a written tuple of texts -/
structure TupS (K : PySem.W.Frag) (a : Addr) (zs : List Str) : Prop where
  ex : ∃ (o : Obj) (its : Array Value) (n : Nat), K.lookup a = some o ∧ o.cls = .type "tuple" ∧ o.data = .seq its n ∧ its.size ≤ sizeLine ∧ Vals (zs.map V.str) its.toList
def chkS : List Str → List Value → Bool
  | [], [] => true
  | z :: zs, .str y _ :: us => decide (z = y) && chkS zs us
  | _, _ => false
theorem vals_strs : ∀ (zs : List Str) (us : List Value), chkS zs us = true → Vals (zs.map V.str) us
  | [], [], _ => .nil
  | z :: zs, u :: us, h => by
    cases u with
    | str y t =>
      have h' : (decide (z = y) && chkS zs us) = true := h
      rw [Bool.and_eq_true] at h'
      have r : RelV (V.str z) (.str y t) := by
        rw [of_decide_eq_true h'.1]
        exact ⟨t, rfl⟩
      exact .cons r (vals_strs zs us h'.2)
    | _ => cases h
  | [], _ :: _, h => nomatch h
  | _ :: _, [], h => nomatch h
theorem TupS.sq {K : PySem.W.Frag} {a : Addr} {zs : List Str} {H : Hp} (t : TupS K a zs) : SqT K H a (zs.map V.str) := .inr t.ex
def Rows (P : Params) : List DictEntry → List (Str × V) → Prop
  | [], [] => True
  | e :: r, (x, v) :: q => (∃ t, e.key = .str x t) ∧ e.hash = PyData.keyHash P x ∧ RelV v e.val ∧ Rows P r q
  | _, _ => False
/-- a written dict with text keys -/
structure DicV (K : PySem.W.Frag) (w : World) (a : Addr) (kvs : List (Str × V)) : Prop where
  ex : ∃ (es : Array DictEntry) (n : Nat), K.lookup a = some ⟨.type "dict", none, .dict es n, #[]⟩ ∧ (a == sysModules) = false ∧ Rows w.params es.toList kvs
def valS (kvs : List (Str × V)) (z : Str) : Option V := (kvs.find? fun p => decide (p.1 = z)).map (·.2)
theorem Rows.lit {P : Params} : ∀ {l : List DictEntry} {q : List (Str × V)}, Rows P l q → PySem.W.KeysLit P l
  | [], _, _ => True.intro
  | e :: r, [], h => nomatch h
  | e :: r, (x, v) :: q, ⟨⟨t, h1⟩, h2, _, h4⟩ => ⟨⟨x, t, h1, h2⟩, h4.lit⟩
theorem Rows.noref {P : Params} : ∀ {l : List DictEntry} {q : List (Str × V)}, Rows P l q → l.any (·.refKey) = false
  | [], _, _ => rfl
  | e :: r, [], h => nomatch h
  | e :: r, (x, v) :: q, ⟨⟨t, h1⟩, _, _, h4⟩ => by
    rw [List.any_cons, h4.noref, Bool.or_false]
    unfold DictEntry.refKey
    rw [h1]
theorem isStrOf_eq (z x : Str) (t : Tok) : Value.isStrOf z (.str x t) = decide (x = z) := by
  by_cases c : x = z
  · rw [decide_eq_true c, c]; simp [Value.isStrOf]
  · rw [decide_eq_false c]; simp [Value.isStrOf, c, Ne.symm c]
theorem Rows.find {P : Params} (z : Str) : ∀ {l : List DictEntry} {q : List (Str × V)}, Rows P l q → (match valS q z with
    | none => l.find? (·.key.isStr z) = none
    | some v => ∃ e, l.find? (·.key.isStr z) = some e ∧ RelV v e.val)
  | [], [], _ => rfl
  | [], _ :: _, h => nomatch h
  | e :: r, [], h => nomatch h
  | e :: r, (x, v) :: q, ⟨⟨t, h1⟩, _, h3, h4⟩ => by
    have ek : e.key.isStr z = decide (x = z) := by
      rw [h1, PySem.W.isStr_of]
      show Value.isStrOf z (.str x t) = _
      exact isStrOf_eq z x t
    have ih := h4.find z
    unfold valS at ih ⊢
    rw [List.find?_cons, List.find?_cons, ek]
    by_cases c : x = z
    · rw [decide_eq_true c]
      exact ⟨e, rfl, h3⟩
    · rw [decide_eq_false c]
      exact ih
theorem DicV.kd {K : PySem.W.Frag} {w : World} {a : Addr} {kvs : List (Str × V)} (d : DicV K w a kvs) : ∃ es n, KDict K w a es n := by
  obtain ⟨es, n, h1, h2, h3⟩ := d.ex
  exact ⟨es, n, h1, h3.lit, h2⟩
theorem DicV.ns {K : PySem.W.Frag} {w : World} {a : Addr} {kvs : List (Str × V)} (d : DicV K w a kvs) (z : Str) : match valS kvs z with
    | none => PySem.W.nsIn K a z = some none
    | some v => ∃ u, PySem.W.nsIn K a z = some (some u) ∧ RelV v u := by
  obtain ⟨es, n, h1, h2, h3⟩ := d.ex
  have h := h3.find z
  unfold PySem.W.nsIn
  rw [h1]
  split
  · rename_i e
    rw [e] at h
    simp only [h, h3.noref]
    rfl
  · rename_i v e
    rw [e] at h
    obtain ⟨en, h5, h6⟩ := h
    simp only [h5]
    exact ⟨_, rfl, h6⟩
section
variable {X : Cx} {d : Addr} {kvs : List (Str × V)}
def rInT (d : Addr) (kvs : List (Str × V)) : R2 := fun x y H Q => ∃ z : Str, x = .str z ∧ y = .ref d ∧ Q (.bl (valS kvs z).isSome) H
theorem op_inT (D : DicV X.K X.w d kvs) : OpR X (compareOp .In) (rInT d kvs) := by
  intro pins s σ H x y v u Q I rx ry h
  obtain ⟨z, rfl, rfl, q⟩ := h
  obtain ⟨es, n, k⟩ := D.kd
  have hn := D.ns z
  cases e : valS kvs z with
  | none =>
    rw [e] at hn q
    exact op_in_kd k pins s σ H _ _ v u Q I rx ry ⟨z, none, rfl, rfl, hn, q⟩
  | some v0 =>
    rw [e] at hn q
    obtain ⟨u0, hn, _⟩ := hn
    exact op_in_kd k pins s σ H _ _ v u Q I rx ry ⟨z, some u0, rfl, rfl, hn, q⟩
def rIxT (d : Addr) (kvs : List (Str × V)) : R2 := fun x y H Q => ∃ (z : Str) (v : V), x = .ref d ∧ y = .str z ∧ valS kvs z = some v ∧ Q v H
theorem ix_T (D : DicV X.K X.w d kvs) : IxR X (rIxT d kvs) := by
  intro value slice pins s σ H x y v u Q I rx ry h hs
  obtain ⟨z, v0, rfl, rfl, e, q⟩ := h
  have hn := D.ns z
  rw [e] at hn
  obtain ⟨u0, hn, hr⟩ := hn
  obtain ⟨es, n, h1, h2, h3⟩ := D.ex
  exact ix_kdict value slice pins s σ H (.ref d) (.str z) v u Q I rx ry ⟨d, z, v0, rfl, rfl, ⟨es, n, u0, h1, h3.lit, hn, hr⟩, q⟩ hs
def tGet2T (d : Addr) (kvs : List (Str × V)) (td ty tx : TE) : TE := fun σ H Q => td σ H fun x H1 => x = .ref d ∧ ty σ H1 fun y H2 => tx σ H2 fun v H3 => ∃ z : Str, y = .str z ∧ Q ((valS kvs z).getD v) H3
theorem pe_get2T {o e f : Expr} {apos cpos : Pos} {td ty tx : TE} (D : DicV X.K X.w d kvs) (ho : PE X o td) (he : PE X e ty) (hf : PE X f tx) (m : M2 X o "get" apos e f cpos) : PE X (.Call (.Attribute o "get" apos) [e, f] [] cpos) (tGet2T d kvs td ty tx) := by
  refine ⟨fun pins s σ H Q I h => ?_⟩
  refine wpAny_Call_method m.base m.few m.line PySem.F.plainAttrs_dict PySem.F.slot_dict_get PySem.F.type_dict_get (thn (ho.run pins s σ H _ I h) fun u s1 ⟨x, H1, I1, rx, ex, q1⟩ => ?_)
  subst ex
  obtain rfl : u = Value.ref d := rx
  obtain ⟨es, n, h1, h2, h3⟩ := D.ex
  have dd : ∀ {pins : List (Addr × Obj)} {σ : L2.St} {H : Hp} {s : Shared}, Inv X pins σ H s → _ := fun I => PySem.W.mapOf_K (prog := X.prog) (w := X.w) I.kIn h1 h3.lit
  refine ⟨(dd I1).typeIs, fun b q => ?_, ?_⟩
  · cases q
    obtain ⟨ob, _, _, hg, hx, _⟩ := id (dd I1)
    exact ⟨ob, hg, hx.2.1⟩
  rw [m.trees]
  refine Calls.callWith_builtin rfl (Calls.evalArgs_plain (Calls.spliced_cons (thn (he.run pins s1 σ H1 _ I1 q1) fun iv s2 ⟨y, H2, I2, ry, q2⟩ =>
    Calls.spliced_cons (thn (hf.run pins s2 σ H2 _ I2 q2) fun fv s3 ⟨v, H3, I3, rv, z, ez, q3⟩ => Calls.spliced_nil ?_))))
  subst ez
  obtain ⟨t, rfl⟩ := ry
  refine call_meetsIn PySem.F.slot_dict_get (dd I3).typeIs PySem.F.entry_dict_get (PySem.F.args_dict_get_3 _ _ _) (meets_dict_get_default (strKind X.prog X.w) d (strKind_is X.prog X.w z t) h2 fv) ⟨_, dd I3, ?_⟩
  have hn := D.ns z
  refine ⟨(valS kvs z).getD v, H3, I3.tok _, ?_, q3⟩
  cases e : valS kvs z with
  | none =>
    rw [e] at hn
    rw [PySem.W.find_K h1 hn]
    exact rv
  | some v0 =>
    rw [e] at hn
    obtain ⟨u0, hn, hr⟩ := hn
    rw [PySem.W.find_K h1 hn]
    exact hr
/-- a call of a local that holds one of several defs; each may let out what X.xe takes -/
def tCallT (i : Nat) (S : Addr → Sp → Prop) (E : XK) (t : TA) : TE := fun σ H Q => ∃ f sp, σ[i]? = some (some (.ref f)) ∧ S f sp ∧ t σ H fun vs H1 => sp vs H1 Q E
theorem pe_callT {S : Addr → Sp → Prop} {C : CXT} {E : XK} {k j : Nat} {i : Nat} {x : Str} {p pos : Pos} {es : List Expr} {t : TA} (A : ∀ f sp, S f sp → ∃ (y : Str), Cal X.prog X.w X.K X.mg X.base C k y sp ∧ X.mg y = some (.ref f)) (hr : Room j X.A) (hk : k ≤ j) (hN : X.N[i]? = some x) (hv : Vis X.env.scope x)
    (hx : Passes C X E) (ha : PA X (e :: es) t)
    (hdb : (x == ("__debug__" : Str)) = false := by decide) (hcd : (x == ("__classdict__" : Str)) = false := by decide)
    (he : starEach (e :: es) X.env = (false, eval e X.env) :: starEach es X.env := by rfl) (hpl : (backTo pos (starEach es X.env)).any (·.1) = false := by rfl) : PE X (.Call (.Name x p) (e :: es) [] pos) (tCallT i S E t) := by
  refine ⟨fun pins s σ H Q I h => ?_⟩
  obtain ⟨f, sp, hs, hS, ht⟩ := h
  obtain ⟨y, c, hy⟩ := A f sp hS
  obtain ⟨f', fd, ps, F, hm, kp, b⟩ := c.ex
  obtain rfl : f' = f := by rw [hm] at hy; cases hy; rfl
  refine (pe_callL (i := i) (f := f') (sp := sp) (dvs := []) (E := E) F (hr.mono hk) hN hv kp b .nil hx ha hdb hcd he hpl).run pins s σ H Q I ⟨hs, ?_⟩
  have e0 : (fun (vs : List V) (H1 : Hp) => sp (vs ++ []) H1 Q E) = fun vs H1 => sp vs H1 Q E := by
    funext vs H1
    rw [List.append_nil]
  rw [e0]
  exact ht
end

/-! ### the text by places -/
def top (i : Nat) : Stmt := PySem.Challenge.pw_wasmhost_k23_strings_come_back.main.body.getD i (.Pass ⟨0, 0, 0, 0⟩)
abbrev s_character_of : Stmt := top 3
abbrev s_print_byte : Stmt := top 11
abbrev s_print_string : Stmt := top 12
abbrev s_digit_of : Stmt := top 20
abbrev s_skip_blanks : Stmt := top 24
abbrev s_check_in_string : Stmt := top 25
abbrev s_read_escape : Stmt := top 26
abbrev s_read_string : Stmt := top 27
abbrev s_read_token : Stmt := top 29
abbrev s_tokens_of : Stmt := top 30
abbrev s__law_char : Stmt := top 32
abbrev s__law_alike : Stmt := top 33
abbrev s__law_bytes : Stmt := top 34
abbrev s__law_due : Stmt := top 35
abbrev s_law : Stmt := top 36
abbrev s_Scanner___init__ : Stmt := inClass (top 19) 0
abbrev s_Scanner_position : Stmt := inClass (top 19) 1
abbrev s_Scanner_ahead : Stmt := inClass (top 19) 2
abbrev s_Scanner_skip : Stmt := inClass (top 19) 3
theorem sc_character_of : FnScope ["code"] ["code"] (defScope s_character_of) := ⟨rfl, rfl, rfl, by decide +kernel, rfl, by decide +kernel, by decide +kernel⟩
theorem sc_print_byte : FnScope ["byte", "character"] ["byte"] (defScope s_print_byte) := ⟨rfl, rfl, rfl, by decide +kernel, rfl, by decide +kernel, by decide +kernel⟩
theorem sc_print_string : FnScope ["data", "byte"] ["data"] (defScope s_print_string) := ⟨rfl, rfl, rfl, by decide +kernel, rfl, by decide +kernel, by decide +kernel⟩
theorem sc_digit_of : FnScope ["character", "digit"] ["character"] (defScope s_digit_of) := ⟨rfl, rfl, rfl, by decide +kernel, rfl, by decide +kernel, by decide +kernel⟩
theorem sc_skip_blanks : FnScope ["scanner", "mark"] ["scanner"] (defScope s_skip_blanks) := ⟨rfl, rfl, rfl, by decide +kernel, rfl, by decide +kernel, by decide +kernel⟩
theorem sc_check_in_string : FnScope ["scanner", "line", "column"] ["scanner"] (defScope s_check_in_string) := ⟨rfl, rfl, rfl, by decide +kernel, rfl, by decide +kernel, by decide +kernel⟩
theorem sc_read_escape : FnScope ["scanner", "line", "column", "character", "high", "low"] ["scanner"] (defScope s_read_escape) := ⟨rfl, rfl, rfl, by decide +kernel, rfl, by decide +kernel, by decide +kernel⟩
theorem sc_read_string : FnScope ["scanner", "data"] ["scanner"] (defScope s_read_string) := ⟨rfl, rfl, rfl, by decide +kernel, rfl, by decide +kernel, by decide +kernel⟩
theorem sc_read_token : FnScope ["scanner", "character", "line", "column"] ["scanner"] (defScope s_read_token) := ⟨rfl, rfl, rfl, by decide +kernel, rfl, by decide +kernel, by decide +kernel⟩
theorem sc_tokens_of : FnScope ["text", "scanner", "tokens", "sort", "position", "value"] ["text"] (defScope s_tokens_of) := ⟨rfl, rfl, rfl, by decide +kernel, rfl, by decide +kernel, by decide +kernel⟩
theorem sc__law_char : FnScope ["number", "chars"] ["number"] (defScope s__law_char) := ⟨rfl, rfl, rfl, by decide +kernel, rfl, by decide +kernel, by decide +kernel⟩
theorem sc__law_alike : FnScope ["actual", "due", "k"] ["actual", "due"] (defScope s__law_alike) := ⟨rfl, rfl, rfl, by decide +kernel, rfl, by decide +kernel, by decide +kernel⟩
theorem sc__law_bytes : FnScope ["script", "first", "data", "k", "cell"] ["script"] (defScope s__law_bytes) := ⟨rfl, rfl, rfl, by decide +kernel, rfl, by decide +kernel, by decide +kernel⟩
theorem sc__law_due : FnScope ["data", "text", "byte"] ["data"] (defScope s__law_due) := ⟨rfl, rfl, rfl, by decide +kernel, rfl, by decide +kernel, by decide +kernel⟩
theorem sc_law : FnScope ["script", "data", "due", "passed", "told", "again", "tokens", "end"] ["script"] (defScope s_law) := ⟨rfl, rfl, rfl, by decide +kernel, rfl, by decide +kernel, by decide +kernel⟩
theorem sc_Scanner___init__ : FnScope ["self", "text"] ["self", "text"] (defScope s_Scanner___init__) := ⟨rfl, rfl, rfl, by decide +kernel, rfl, by decide +kernel, by decide +kernel⟩
theorem sc_Scanner_position : FnScope ["self"] ["self"] (defScope s_Scanner_position) := ⟨rfl, rfl, rfl, by decide +kernel, rfl, by decide +kernel, by decide +kernel⟩
theorem sc_Scanner_ahead : FnScope ["self", "count"] ["self", "count"] (defScope s_Scanner_ahead) := ⟨rfl, rfl, rfl, by decide +kernel, rfl, by decide +kernel, by decide +kernel⟩
theorem sc_Scanner_skip : FnScope ["self", "count", "_"] ["self", "count"] (defScope s_Scanner_skip) := ⟨rfl, rfl, rfl, by decide +kernel, rfl, by decide +kernel, by decide +kernel⟩
/-- where the own classes stand -/
structure Cs where
  t_ESCAPES : Addr
  C_Scanner : Addr
def v_ESCAPES (cs : Cs) : List (Str × V) := [("t", .int 9), ("n", .int 10), ("\"", .int 34), ("'", .int 39), ("\\", .int 92)]
/-! the attributes of an object of Scanner -/
def fs_Scanner (x0 x1 x2 x3 : V) : List (Str × V) := [("text", x0), ("at", x1), ("line_number", x2), ("line_start", x3)]
theorem lk_Scanner_text {x0 x1 x2 x3 : V} : (fs_Scanner x0 x1 x2 x3).lookup ("text" : Str) = some x0 := lk_hd
theorem pt_Scanner_text {x0 x1 x2 x3 v : V} : putF "text" v (fs_Scanner x0 x1 x2 x3) = fs_Scanner v x1 x2 x3 := pt_hd
theorem lk_Scanner_at {x0 x1 x2 x3 : V} : (fs_Scanner x0 x1 x2 x3).lookup ("at" : Str) = some x1 := (lk_tl (by decide +kernel)).trans (lk_hd)
theorem pt_Scanner_at {x0 x1 x2 x3 v : V} : putF "at" v (fs_Scanner x0 x1 x2 x3) = fs_Scanner x0 v x2 x3 := pt_tl (by decide +kernel) (pt_hd)
theorem lk_Scanner_line_number {x0 x1 x2 x3 : V} : (fs_Scanner x0 x1 x2 x3).lookup ("line_number" : Str) = some x2 := (lk_tl (by decide +kernel)).trans ((lk_tl (by decide +kernel)).trans (lk_hd))
theorem pt_Scanner_line_number {x0 x1 x2 x3 v : V} : putF "line_number" v (fs_Scanner x0 x1 x2 x3) = fs_Scanner x0 x1 v x3 := pt_tl (by decide +kernel) (pt_tl (by decide +kernel) (pt_hd))
theorem lk_Scanner_line_start {x0 x1 x2 x3 : V} : (fs_Scanner x0 x1 x2 x3).lookup ("line_start" : Str) = some x3 := (lk_tl (by decide +kernel)).trans ((lk_tl (by decide +kernel)).trans ((lk_tl (by decide +kernel)).trans (lk_hd)))
theorem pt_Scanner_line_start {x0 x1 x2 x3 v : V} : putF "line_start" v (fs_Scanner x0 x1 x2 x3) = fs_Scanner x0 x1 x2 v := pt_tl (by decide +kernel) (pt_tl (by decide +kernel) (pt_tl (by decide +kernel) (pt_hd)))
theorem no_Scanner___init__ {x0 x1 x2 x3 : V} : (fs_Scanner x0 x1 x2 x3).lookup ("__init__" : Str) = none := (lk_tl (by decide +kernel)).trans ((lk_tl (by decide +kernel)).trans ((lk_tl (by decide +kernel)).trans ((lk_tl (by decide +kernel)).trans (rfl))))
theorem no_Scanner_position {x0 x1 x2 x3 : V} : (fs_Scanner x0 x1 x2 x3).lookup ("position" : Str) = none := (lk_tl (by decide +kernel)).trans ((lk_tl (by decide +kernel)).trans ((lk_tl (by decide +kernel)).trans ((lk_tl (by decide +kernel)).trans (rfl))))
theorem no_Scanner_ahead {x0 x1 x2 x3 : V} : (fs_Scanner x0 x1 x2 x3).lookup ("ahead" : Str) = none := (lk_tl (by decide +kernel)).trans ((lk_tl (by decide +kernel)).trans ((lk_tl (by decide +kernel)).trans ((lk_tl (by decide +kernel)).trans (rfl))))
theorem no_Scanner_skip {x0 x1 x2 x3 : V} : (fs_Scanner x0 x1 x2 x3).lookup ("skip" : Str) = none := (lk_tl (by decide +kernel)).trans ((lk_tl (by decide +kernel)).trans ((lk_tl (by decide +kernel)).trans ((lk_tl (by decide +kernel)).trans (rfl))))
theorem in_Scanner_0 {x0 x1 x2 x3 : V} : putF "text" x0 ([] : List (Str × V)) = [(("text" : Str), x0)] := pt_nl
theorem in_Scanner_1 {x0 x1 x2 x3 : V} : putF "at" x1 ([(("text" : Str), x0)] : List (Str × V)) = [(("text" : Str), x0), (("at" : Str), x1)] := pt_tl (by decide +kernel) (pt_nl)
theorem in_Scanner_2 {x0 x1 x2 x3 : V} : putF "line_number" x2 ([(("text" : Str), x0), (("at" : Str), x1)] : List (Str × V)) = [(("text" : Str), x0), (("at" : Str), x1), (("line_number" : Str), x2)] := pt_tl (by decide +kernel) (pt_tl (by decide +kernel) (pt_nl))
theorem in_Scanner_3 {x0 x1 x2 x3 : V} : putF "line_start" x3 ([(("text" : Str), x0), (("at" : Str), x1), (("line_number" : Str), x2)] : List (Str × V)) = [(("text" : Str), x0), (("at" : Str), x1), (("line_number" : Str), x2), (("line_start" : Str), x3)] := pt_tl (by decide +kernel) (pt_tl (by decide +kernel) (pt_tl (by decide +kernel) (pt_nl)))
/-- what the top leaves: built-in names that nothing binds, own classes -/
structure Tp (w : World) (K : PySem.W.Frag) (mg : Str → Option Value) (cs : Cs) : Prop where
  m_bool : mg "bool" = none
  m_int : mg "int" = none
  m_isinstance : mg "isinstance" = none
  m_len : mg "len" = none
  m_list : mg "list" = none
  m_ord : mg "ord" = none
  m_range : mg "range" = none
  m_str : mg "str" = none
  m_tuple : mg "tuple" = none
  g_ESCAPES : mg "ESCAPES" = some (.ref cs.t_ESCAPES)
  d_ESCAPES : DicV K w cs.t_ESCAPES (v_ESCAPES cs)
  i_QUOTE : ∃ t, mg "QUOTE" = some (.int 34 t)
  i_BACKSLASH : ∃ t, mg "BACKSLASH" = some (.int 92 t)
  i_MOST_WORD : ∃ t, mg "MOST_WORD" = some (.int 200 t)
  g_Scanner : mg "Scanner" = some (.ref cs.C_Scanner)
  cl_Scanner : Cls K cs.C_Scanner
  n_Scanner_text : NoAttr K cs.C_Scanner "text"
  n_Scanner_at : NoAttr K cs.C_Scanner "at"
  n_Scanner_line_number : NoAttr K cs.C_Scanner "line_number"
  n_Scanner_line_start : NoAttr K cs.C_Scanner "line_start"
  w_DIGITS : ∃ t, mg "DIGITS" = some (.str ("0123456789abcdef" : Str) t)
  w_HEXADECIMAL : ∃ t, mg "HEXADECIMAL" = some (.str ("0123456789abcdef" : Str) t)
  w_LOW_CHARACTERS : ∃ t, mg "LOW_CHARACTERS" = some (.str (" !\"#$" : Str) t)
  w_HIGH_CHARACTERS : ∃ t, mg "HIGH_CHARACTERS" = some (.str ("&'()*+,-./0123456789:;<=>?@ABCDEFGHIJKLMNOPQRSTUVWXYZ[\\]^_`abcdefghijklmnopqrstuvwxyz{|}~" : Str) t)
  w_BLANKS : ∃ t, mg "BLANKS" = some (.str (" \t\n" : Str) t)
  w_NOT_IN_WORDS : ∃ t, mg "NOT_IN_WORDS" = some (.str ("\"(),;[]{}" : Str) t)
/-! ### lists of ints that are the same -/
theorem dp_all {K : PySem.W.Frag} {H : Hp} : ∀ ns : List Int, DpAll K H (ns.map V.int) (ns.map PyData.int)
  | [] => .nil
  | _ :: r => .cons (.int _) (dp_all r)
theorem canlay_ints : ∀ ns : List Int, PyData.canLayAll0 (ns.map PyData.int) = true
  | [] => rfl
  | _ :: r => by
    show PyData.canLayAll0 (PyData.int _ :: r.map PyData.int) = true
    simp only [PyData.canLayAll0, PyData.canLay0, canlay_ints r, Bool.and_self]
theorem depth_ints : ∀ ns : List Int, PyData.depthAll (ns.map PyData.int) ≤ 63
  | [] => by simp [PyData.depthAll]
  | _ :: r => by
    have h := depth_ints r
    simp [PyData.depthAll, PyData.depth] at h ⊢
    exact h
theorem shaped_ints (ns : List Int) : SeqAt.shaped (.list (ns.map PyData.int)) = true := by
  unfold SeqAt.shaped
  rw [Bool.and_eq_true]
  refine ⟨?_, decide_eq_true ?_⟩
  · simp only [PyData.canLay0, canlay_ints]
  · have h := depth_ints ns
    simp only [PyData.depth] at h ⊢
    omega
theorem eqD_same {K : PySem.W.Frag} {H : Hp} {x y : V} {d : PyData} {Q : VK} (h1 : Dp K H x d) (h2 : Dp K H y d) (s : SeqAt.shaped d = true) (q : Q (.bl true) H) : rEqD K x y H Q :=
  ⟨d, d, h1, h2, s, s, by rw [SeqAt.eqv_refl d (SeqAt.canLay_of_shaped s)]; exact q⟩
theorem neD_same {K : PySem.W.Frag} {H : Hp} {x y : V} {d : PyData} {Q : VK} (h1 : Dp K H x d) (h2 : Dp K H y d) (s : SeqAt.shaped d = true) (q : Q (.bl false) H) : rNeD K x y H Q :=
  ⟨d, d, h1, h2, s, s, by rw [SeqAt.eqv_refl d (SeqAt.canLay_of_shaped s)]; exact q⟩
theorem dp_ints {K : PySem.W.Frag} {H : Hp} {a : Addr} {ns : List Int} (h : SqL K H a (ns.map V.int)) : Dp K H (.ref a) (.list (ns.map PyData.int)) := .lst h (dp_all ns)
theorem eqv_ints (ns : List Int) : PyData.eqv (.list (ns.map PyData.int)) (.list (ns.map PyData.int)) = true := SeqAt.eqv_refl _ (SeqAt.canLay_of_shaped (shaped_ints ns))

/-! ### ifs and tests whose answer is known -/
theorem ifNe {x y : Int} {A B : Prop} (e : x = y) (h : B) : if (!decide (V.int x = V.int y)) = true then A else B := by
  subst e
  rw [decide_eq_true rfl]
  exact h
theorem ifNeN {x y : Int} {A B : Prop} (e : ¬ x = y) (h : A) : if (!decide (V.int x = V.int y)) = true then A else B := by
  rw [decide_eq_false (fun z => e (V.int.inj z))]
  exact h
theorem eqT {x y : Int} (e : x = y) : decide (V.int x = V.int y) = true := decide_eq_true (congrArg V.int e)
theorem qT {x y : Int} {Q : VK} {H : Hp} (e : x = y) (h : Q (.bl true) H) : Q (.bl (decide (V.int x = V.int y))) H := by rw [eqT e]; exact h
theorem orV {t u : TE} {σ : L2.St} {H : Hp} {Q : VK} (b1 b2 : Bool) (h1 : ∀ Q, (∀ H', Same H H' → Q (.bl b1) H') → t σ H Q) (h2 : ∀ H' Q, Q (.bl b2) H' → u σ H' Q) (q : ∀ H', Same H H' → Q (.bl (b1 || b2)) H') : tOrV t u σ H Q := by
  refine h1 _ fun H' s => ⟨b1, rfl, ?_⟩
  cases b1 with
  | true => rw [if_pos rfl]; exact q _ s
  | false => rw [if_neg (by decide)]; exact h2 _ _ (q _ s)
theorem andV {t u : TE} {σ : L2.St} {H : Hp} {Q : VK} (b1 b2 : Bool) (h1 : ∀ Q, Q (.bl b1) H → t σ H Q) (h2 : ∀ Q, Q (.bl b2) H → u σ H Q) (q : Q (.bl (b1 && b2)) H) : tAndV t u σ H Q := by
  refine h1 _ ⟨b1, rfl, ?_⟩
  cases b1 with
  | true => rw [if_pos rfl]; exact h2 _ q
  | false => rw [if_neg (by decide)]; exact q
theorem orF {t u : TT} {σ : L2.St} {H : Hp} {Q : Bool → Hp → Prop} (h1 : ∀ Q, (∀ H', Same H H' → Q false H') → t σ H Q) (h2 : ∀ H', Same H H' → ∀ Q, (∀ H'', Same H' H'' → Q false H'') → u σ H' Q) (q : ∀ H', Same H H' → Q false H') : tOr t u σ H Q := by
  refine h1 _ fun H' s => ?_
  rw [if_neg (by decide)]
  exact h2 _ s _ fun H'' s' => q _ (s.trans s')
theorem neF {x y : Int} {Q : Bool → Hp → Prop} {H : Hp} (e : x = y) (h : Q false H) : Q (!decide (V.int x = V.int y)) H := by rw [eqT e]; exact h
theorem ifEq {x y : Int} {A B : Prop} (e : x = y) (h : A) : if decide (V.int x = V.int y) = true then A else B := by rw [eqT e]; exact h
theorem ifEqN {x y : Int} {A B : Prop} (e : ¬ x = y) (h : B) : if decide (V.int x = V.int y) = true then A else B := by
  rw [decide_eq_false (fun z => e (V.int.inj z))]; exact h
theorem ifS {x y : Str} {A B : Prop} (e : x = y) (h : A) : if decide (V.str x = V.str y) = true then A else B := by rw [if_pos (decide_eq_true (congrArg V.str e))]; exact h
theorem ifSN {x y : Str} {A B : Prop} (e : ¬ x = y) (h : B) : if decide (V.str x = V.str y) = true then A else B := by
  rw [if_neg (fun z => e (V.str.inj (of_decide_eq_true z)))]; exact h
theorem ifNeS {x y : Str} {A B : Prop} (e : x = y) (h : B) : if (!decide (V.str x = V.str y)) = true then A else B := by
  subst e
  rw [decide_eq_true rfl]
  exact h
theorem qTS {x y : Str} {Q : VK} {H : Hp} (e : x = y) (h : Q (.bl true) H) : Q (.bl (decide (V.str x = V.str y))) H := by rw [decide_eq_true (congrArg V.str e)]; exact h
theorem call_isiS {X : Cx} {a : Addr} {ps : List (Addr × Obj)} : CallR (X.suite a ps) (.builtin "isinstance") (rIsi X.K) := call_isi
theorem for_tupE {K : PySem.W.Frag} {a : Addr} {xs : List V} {g : TG} {tb : TS} {nx : L2.St → Hp → Prop} {rt : VK} {σ : L2.St} {H : Hp} (Pv : Nat → L2.St → Hp → Prop) (h0 : Pv 0 σ H) (hl : ∀ i σ H, i ≤ xs.length → Pv i σ H → SqT K H a xs)
    (hs : ∀ i x σ H, xs[i]? = some x → Pv i σ H → g x σ H fun σ2 H2 => tb { nx := Pv (i + 1), rt := rt, bk := nx, ct := Pv (i + 1) } σ2 H2) (hd : ∀ σ H, Pv xs.length σ H → nx σ H) :
    ∃ W : Nat → Nat → L2.St → Hp → Prop, (∃ m, W 0 m σ H) ∧ ∀ i m σ H, W i m σ H → ((Itt K a).stop i H ∧ nx σ H) ∨ ((Itt K a).go i H ∧ ∃ N : L2.St → Hp → Prop, (∀ σ' H', N σ' H' → ∃ m', m' < m ∧ W (i + 1) m' σ' H') ∧
      ∀ x H', (Itt K a).yld i H x H' → g x σ H' fun σ2 H2 => tb { nx := N, rt := rt, bk := nx, ct := N } σ2 H2) := for_tup (D := { nx := nx, rt := rt }) Pv h0 hl hs hd
theorem isi_bool {K : PySem.W.Frag} {H : Hp} {b : Bool} {Q : VK} (q : Q (.bl true) H) : rIsi K [.bl b, .ty "bool"] H Q := ⟨.bl b, .ty "bool", _, _, true, rfl, .ty _, .base (.bl _), kit_ty (by decide +kernel), q⟩
theorem ne_of_nd {x y : Int} (h : (!decide (V.int x = V.int y)) = true) : ¬ x = y := fun e => by
  rw [decide_eq_true (congrArg V.int e)] at h; cases h
theorem eq_of_nd {x y : Int} (h : ¬ (!decide (V.int x = V.int y)) = true) : x = y := by
  by_cases e : x = y
  · exact e
  · exact absurd (by rw [decide_eq_false (fun z => e (V.int.inj z))]; rfl) h
theorem eq_of_d {x y : Int} (h : decide (V.int x = V.int y) = true) : x = y := V.int.inj (of_decide_eq_true h)
theorem ne_of_d {x y : Int} (h : ¬ decide (V.int x = V.int y) = true) : ¬ x = y := fun e => h (decide_eq_true (congrArg V.int e))
theorem sign_of (d : Nat) : -1 ≤ ([1, -1] : List Int).getD d 0 ∧ ([1, -1] : List Int).getD d 0 ≤ 1 := by
  match d with
  | 0 => decide
  | 1 => decide
  | _ + 2 => exact (by decide : (-1 : Int) ≤ 0 ∧ (0 : Int) ≤ 1)
section
variable {X : Cx} {s : Shared} {H : Hp} {sc : Scope} {en : Env} {fp : List Addr}
theorem ix_listB : IxR (X.blk s H sc en fp) (L2.rIxL X.K) := ix_list
theorem ix_tupB : IxR (X.blk s H sc en fp) (L2.rIxT X.K) := ix_tup
theorem call_isiB : CallR (X.blk s H sc en fp) (.builtin "isinstance") (rIsi X.K) := call_isi
end
theorem andIf {t : TE} {σ : L2.St} {H : Hp} {Q : VK} {b1 b2 : Bool} (h : ∀ Q', Q' (.bl b2) H → t σ H Q') (q : Q (.bl (b1 && b2)) H) : if b1 = true then t σ H Q else Q (.bl false) H := by
  cases b1 with
  | true => exact h _ q
  | false => exact q
theorem op_eqDS {X : Cx} {a : Addr} {ps : List (Addr × Obj)} (hu : X.A.units + 64 < cLine) : OpR (X.suite a ps) (compareOp .Eq) (rEqD X.K) := op_eqD (X := X.suite a ps) hu
theorem isi_of {K : PySem.W.Frag} {H : Hp} {x : V} {n : String} {t : Value} {b : Bool} {Q : VK} (h : TyX K H x t) (k : PySem.W.kitOne K t (.type n) = some b) (q : Q (.bl b) H) : rIsi K [x, .ty n] H Q := ⟨x, .ty n, t, _, b, rfl, .ty _, h, k, q⟩

/-! ### lists of texts, heaps that grow -/
theorem newE {H H' : Hp} {p : Addr} {xs : List V} {zs : List Str} (h : H p = none) (e : upd H p (.lst xs) = H') (hx : xs = zs.map V.str) : Same H H' ∧ H' p = some (.lst (zs.map V.str)) := by
  subst e hx
  exact ⟨Same.new h, upd_same⟩
theorem at_strs {zs : List Str} {k : Nat} (h : k < zs.length) : ∃ z ∈ zs, atI (zs.map V.str) (k : Int) = some (.str z) :=
  ⟨zs[k], List.getElem_mem h, atI_nat (by rw [List.getElem?_map, List.getElem?_eq_getElem h]; rfl)⟩
theorem none_of {H H' : Hp} {p : Addr} (s : Same H H') (h : H' p = none) : H p = none := by
  cases e : H p with
  | none => rfl
  | some o => rw [s _ _ e] at h; cases h
theorem catE {H : Hp} {l b : Addr} {zs ys : List Str} {Q : VK} (hl : H l = some (.lst (zs.map V.str))) (hb : H b = some (.lst (ys.map V.str))) (hn : zs.length + ys.length ≤ 1000) (q : ∀ p H', Same H H' → H p = none → H' p = some (.lst ((zs ++ ys).map V.str)) → Q (.ref p) H') : rCat (.ref l) (.ref b) H Q :=
  ⟨l, b, _, _, rfl, rfl, hl, hb, by rw [List.length_map, List.length_map]; exact small64 (by omega), fun p hp => q p _ (Same.new hp) hp (by rw [upd_same, List.map_append])⟩
def LstS (H : Hp) (Q : VK) (zs : List Str) : Prop := ∀ p H', Same H H' → H p = none → H' p = some (.lst (zs.map V.str)) → Q (.ref p) H'
theorem lc_mapS {K : PySem.W.Frag} {a : Addr} {zs : List Str} {j : Nat} {te : TE} {σ : L2.St} {H1 : Hp} {D : Addr} {Qd : Hp → Prop} (f : Str → Str) (hD : H1 D = none) (hS : SqL K H1 a (zs.map V.str)) (hn : zs.length ≤ 100000)
    (hs : ∀ z H Q, z ∈ zs → Same H1 H → (∀ H', Same H H' → Q (.str (f z)) H') → te ((σ.set j none).set j (some (.str z))) H Q) (hd : ∀ H, Same H1 H → H D = some (.lst ((zs.map f).map V.str)) → Qd H) :
    ∃ W : Nat → Nat → Hp → Prop, (∃ m, W 0 m (upd H1 D (.lst []))) ∧ ∀ i m H, W i m H →
      ((Itl K a).stop i H ∧ Qd H) ∨ ((Itl K a).go i H ∧ ∃ Nx : Hp → Prop, (∀ H', Nx H' → ∃ m', m' < m ∧ W (i + 1) m' H') ∧ ∀ x H', (Itl K a).yld i H x H' → gName j x (wipe σ [j]) H' fun σ2 H2 => wipe σ2 [j] = wipe σ [j] ∧ tYes σ2 H2 fun b H3 =>
        if b = true then te σ2 H3 fun y H4 => ∃ acc, H4 D = some (.lst acc) ∧ acc.length < sizeLine ∧ Nx (upd H4 D (.lst (acc ++ [y]))) else Nx H3) := by
  refine lc_map (f := fun v => match v with | .str z => .str (f z) | v => v) hD hS (by rw [List.length_map]; exact hn) (fun x H2 Q2 hx s2 q2 => ?_) (fun H2 s2 hD2 => ?_)
  · obtain ⟨z, hz, rfl⟩ := List.mem_map.mp hx
    exact hs z H2 Q2 hz s2 q2
  · refine hd H2 s2 ?_
    rw [hD2, List.map_map, List.map_map]; rfl
theorem flat_strs : ∀ zs : List Str, (zs.map V.str).all flatV = true
  | [] => rfl
  | _ :: r => flat_strs r
theorem inV_mem (z : Str) (zs : List Str) : inV (.str z) (zs.map V.str) = true ↔ z ∈ zs := by
  unfold inV
  rw [List.any_map, List.any_eq_true]
  constructor
  · rintro ⟨y, hy, e⟩
    have e' : (y == z) = true := e
    rw [← eq_of_beq e']; exact hy
  · intro h
    exact ⟨z, h, (beq_self_eq_true z : (z == z) = true)⟩

/-! ### t[::-1] of a tuple; a loop over the turned copy of a list or a tuple -/
theorem rv_adj (n : Nat) : Builtin.Slice.sliceAdjust none none (-1) (n : Int) = ((n : Int) - 1, -1) := by
  unfold Builtin.Slice.sliceAdjust
  rfl
theorem rv_places (n : Nat) : Builtin.Slice.slicePlaces ((n : Int) - 1) (-1) (-1) = n := by
  unfold Builtin.Slice.slicePlaces
  rw [if_neg (by omega)]
  by_cases h : (n : Int) - 1 > -1
  · rw [if_pos h, show (-(-1) : Int) = 1 from rfl, Int.ediv_one]; omega
  · rw [if_neg h]; show 0 = n; omega
theorem fm_congr {α β : Type} {f g : α → Option β} : ∀ {l : List α}, (∀ m ∈ l, f m = g m) → l.filterMap f = l.filterMap g
  | [], _ => rfl
  | a :: r, h => by
    rw [List.filterMap_cons, List.filterMap_cons, h a (List.mem_cons_self ..), fm_congr fun m hm => h m (List.mem_cons_of_mem _ hm)]
theorem rv_pick (xs : Array Value) : ((List.range xs.size).filterMap fun (m : Nat) => xs[((xs.size : Int) - 1 + (m : Int) * (-1)).toNat]?).toArray = xs.toList.reverse.toArray := by
  congr 1
  have e : ∀ m ∈ List.range xs.size, (fun (m : Nat) => xs[((xs.size : Int) - 1 + (m : Int) * (-1)).toNat]?) m = (fun (m : Nat) => xs[xs.size - 1 - m]?) m := by
    intro m hm
    have h := List.mem_range.mp hm
    have : ((xs.size : Int) - 1 + (m : Int) * (-1)).toNat = xs.size - 1 - m := by omega
    show xs[_]? = xs[_]?
    rw [this]
  rw [fm_congr e, ← PySem.W.krv_all, ← List.filterMap_reverse, ← PySem.W.krv_range, List.filterMap_map]
  rfl
section
variable {P : Program} {w : World} {A : Around} {E : Value → Shared → Prop} {s : Shared}
theorem rv_applied {sl : Addr} {u : Tok} {n : Nat} {Q : Int × Int × Nat → Shared → Prop} (hs : s.heap.IsSliceOf sl .none .none (.int (-1) u)) (h : Q ((n : Int) - 1, -1, n) s) :
    wpAny (model P w) A (Builtin.Slice.sliceApplied (.ref sl) (pure (n : Int))) Q E s := by
  obtain ⟨o, ho, hc, hd⟩ := hs
  unfold Builtin.Slice.sliceApplied Builtin.Slice.sliceFields
  refine wpAny_bind (wpAny_bind (wpAny_field ho hd (x := Value.none) rfl (wpAny_bind (wpAny_field ho hd (x := Value.none) rfl (wpAny_bind (wpAny_field ho hd (x := .int (-1) u) rfl (wpAny_pure ?_)))))))
  refine wpAny_bind (HT.slicePart_ (.int (-1) u) ?_)
  show wpAny _ _ (if ((-1 : Int) == 0) = true then _ else _) _ _ s
  rw [if_neg (by decide)]
  refine wpAny_bind (HT.slicePart_ .none (wpAny_bind (HT.slicePart_ .none (wpAny_bind (wpAny_pure ?_)))))
  show wpAny _ _ (match Builtin.Slice.sliceAdjust none none (-1) (n : Int) with | (lo, hi) => pure (lo, (-1 : Int), Builtin.Slice.slicePlaces lo hi (-1))) _ _ s
  rw [rv_adj]
  show wpAny _ _ (pure ((n : Int) - 1, (-1 : Int), Builtin.Slice.slicePlaces ((n : Int) - 1) (-1) (-1))) _ _ s
  rw [rv_places]
  exact wpAny_pure h
theorem rv_getItem {t sl : Addr} {xs : Array Value} {u : Tok} {Q : Value → Shared → Prop} (ht : IsTup s.heap t xs) (hs : s.heap.IsSliceOf sl .none .none (.int (-1) u))
    (h : Q (.ref s.heap.objs.size) { s with heap := s.heap.push { cls := .type "tuple", data := .seq xs.toList.reverse.toArray } }) (hz : xs.size ≤ sizeLine) :
    wpAny (model P w) A (getItem (.ref t) (.ref sl)) Q E s := by
  have hk : sizeOk (.seq xs.toList.reverse.toArray) := by
    show xs.toList.reverse.toArray.size ≤ sizeLine
    rw [List.size_toArray, List.length_reverse, Array.length_toList]
    exact hz
  have hT : s.TypeIs (.ref sl) "slice" := by obtain ⟨o, ho, hc, _⟩ := hs; exact ⟨o, ho, hc⟩
  unfold getItem
  try with_reducible refine wpAny_holding ?_
  try refine wpAny_bind (wpAny_pure ?_)
  refine wpAny_bind (wpAny_sequenceKey ht.typeIs (by decide) ?_)
  refine wpAny_bind (wpAny_callSpecial?_slot (name := Str.ofString "__getitem__") ht.typeIs PyProof.Rows.slot_tuple_getitem
    (wpAny_call_entry PyProof.Rows.slot_tuple_getitem ht.typeIs entry_tuple_getitem ?_ (args_tuple_getitem _ _)))
  show wpAny _ _ (Builtin.Tuple.tupleItemsOf (.ref t) >>= _) _ _ s
  refine wpAny_bind (tupleItemsOf_ ht ?_)
  refine wpAny_bind (wpAny_typeOf hT ?_)
  rw [if_pos (by decide)]
  refine wpAny_bind (rv_applied hs ?_)
  have hn : ¬ (((xs.size : Int) - 1 == 0 && (-1 : Int) == 1 && xs.size == xs.size) = true) := by
    rw [show ((-1 : Int) == 1) = false from rfl, Bool.and_false, Bool.false_and]; decide
  show wpAny _ _ (if ((xs.size : Int) - 1 == 0 && (-1 : Int) == 1 && xs.size == xs.size) = true then _ else _) _ _ s
  rw [if_neg hn, rv_pick]
  first
    | exact wpAny_bind (m := Builtin.Tuple.tupleExact _) (wpAny_newObj_type (wpAny_pure ⟨_, rfl, wpAny_pure h⟩) hk)
    | exact wpAny_bind (m := Builtin.Tuple.tupleExact _) (wpAny_newObj_type (wpAny_bind (wpAny_pure (wpAny_pure ⟨_, rfl, wpAny_pure h⟩))) hk)
    | exact wpAny_bind (wpAny_bind (m := Builtin.Tuple.tupleExact _) (wpAny_newObj_type (wpAny_pure (wpAny_pure ⟨_, rfl, wpAny_pure h⟩)) hk))
    | exact wpAny_bind (wpAny_bind (m := Builtin.Tuple.tupleExact _) (wpAny_newObj_type (wpAny_pure ⟨_, rfl, wpAny_pure h⟩) hk))
end
section
variable {X : Cx}
def tRevT (K : PySem.W.Frag) (te : TE) : TE := fun σ H Q => te σ H fun x H1 => ∃ a xs, x = .ref a ∧ SqT K H1 a xs ∧ ∀ p, H1 p = none → Q (.ref p) (upd H1 p (.tup xs.reverse))
theorem pe_revT {e : Expr} {te : TE} {k : Nat} {p1 p2 p3 pos : Pos} (he : PE X e te) : PE X (.Subscript e (.Slice none none (some (.UnaryOp .USub (.Constant (.int 1) k p1) p2)) p3) pos) (tRevT X.K te) := by
  refine ⟨fun pins s σ H Q I h => Subscript_ (thn (he.run pins s σ H _ I h) fun v s1 ⟨x, H1, I1, r1, q1⟩ => ?_)⟩
  obtain ⟨a, xs, rfl, hx, q⟩ := q1
  cases r1
  have hm : PO X (some (.UnaryOp .USub (.Constant (.int 1) k p1) p2)) (tPart (tUn (rU fun i => .int (-i)) (tC (.int 1)))) := po_some (pe_un un_neg pe_int)
  refine wpAny_Slice (thn (po_none.run pins s1 σ H1 (fun o H2 => o = none ∧ H2 = H1) I1 ⟨rfl, rfl⟩) ?_)
  rintro vl s2 ⟨_, _, I2, pl, rfl, rfl⟩
  refine thn (po_none.run pins s2 σ _ (fun o H3 => o = none ∧ H3 = _) I2 ⟨rfl, rfl⟩) ?_
  rintro vu s3 ⟨_, _, I3, pu, rfl, rfl⟩
  refine thn (hm.run pins s3 σ _ (fun o H4 => o = some (-1) ∧ H4 = _) I3 ⟨1, rfl, -1, rfl, rfl, rfl⟩) ?_
  rintro vs s4 ⟨_, H4, I4, ps, rfl, rfl⟩
  cases pl
  cases pu
  cases ps with
  | int _ u =>
    have I5 : Inv X pins σ H4 { s4 with heap := s4.heap.push { cls := .type "slice", data := .fields #[.none, .none, .int (-1) u] } } := I4.kept (t' := s4.toks) fun b ob z => Heap.get?_push_of_some _ z
    obtain ⟨its, r, ht, hz⟩ := I5.tuple hx
    show wpAny (model X.prog X.w) X.A (subscriptTail e (.Slice none none (some (.UnaryOp .USub (.Constant (.int 1) k p1) p2)) p3) (.ref a) (.ref s4.heap.objs.size)) (EP X pins σ Q) X.xe { s4 with heap := s4.heap.push { cls := .type "slice", data := .fields #[.none, .none, .int (-1) u] } }
    refine tail_any (ops := [.ref a, .ref s4.heap.objs.size]) ht.typeIs (PyProof.Rows.slot_tuple_getitem.lookup) ?_ (by with_unfolding_all rfl)
    refine rv_getItem ht (Heap.IsSliceOf.new _ .none .none (.int (-1) u)) ?_ (by rw [List.size_toArray]; exact r.length ▸ hz)
    exact ⟨.ref _, _, I5.laid (t' := s4.toks) (o := .tup xs.reverse) (fun b ob z => Heap.get?_push_of_some _ z) (Nat.le_refl _) ⟨by rw [List.length_reverse]; exact hz, _, r.reverse, IsTup.new _ _⟩, rfl, q _ (I5.hok.fresh (Nat.le_refl _))⟩
theorem pi_or {tg e : Expr} {u t : TI} (h1 : PI X tg e u) (h2 : PI X tg e t) : PI X tg e (fun σ H R => u σ H R ∨ t σ H R) :=
  ⟨fun pins s σ H R I h => h.elim (h1.run pins s σ H R I) (h2.run pins s σ H R I)⟩
end
theorem for_tupD {K : PySem.W.Frag} {a : Addr} {xs : List V} {g : TG} {tb : TS} {nx : L2.St → Hp → Prop} {rt : VK} {σ : L2.St} {H : Hp} (Pv : Nat → L2.St → Hp → Prop) (h0 : Pv 0 σ H) (hl : ∀ i σ H, i ≤ xs.length → Pv i σ H → SqT K H a xs)
    (hs : ∀ i x σ H, xs[i]? = some x → Pv i σ H → g x σ H fun σ2 H2 => tb { nx := Pv (i + 1), rt := rt, bk := nx, ct := Pv (i + 1) } σ2 H2) (hd : ∀ σ H, Pv xs.length σ H → nx σ H) :
    ∃ W : Nat → Nat → L2.St → Hp → Prop, (∃ m, W 0 m σ H) ∧ ∀ i m σ H, W i m σ H → ((Itt K a).stop i H ∧ nx σ H) ∨ ((Itt K a).go i H ∧ ∃ N : L2.St → Hp → Prop, (∀ σ' H', N σ' H' → ∃ m', m' < m ∧ W (i + 1) m' σ' H') ∧
      ∀ x H', (Itt K a).yld i H x H' → g x σ H' fun σ2 H2 => tb { nx := N, rt := rt, bk := nx, ct := N } σ2 H2) := for_tup (D := { nx := nx, rt := rt }) Pv h0 hl hs hd

/-- a name that the module binds to an int -/
theorem pe_gint {X : Cx} {x : Str} {p : Pos} {i : Int} (hg : Gl X x) (hm : ∃ t, X.mg x = some (.int i t)) (hdb : (x == ("__debug__" : Str)) = false := by decide) : PE X (.Name x p) (tC (.int i)) := by
  obtain ⟨t, h⟩ := hm
  exact pe_glob hg h ⟨t, rfl⟩ hdb

/-! ### texts by their codes -/
theorem pe_gstr {X : Cx} {x : Str} {p : Pos} {z : Str} (hg : Gl X x) (hm : ∃ t, X.mg x = some (.str z t)) (hdb : (x == ("__debug__" : Str)) = false := by decide) : PE X (.Name x p) (tC (.str z)) := by
  obtain ⟨t, h⟩ := hm
  exact pe_glob hg h ⟨t, rfl⟩ hdb
theorem for_strD {x : Str} {g : TG} {tb : TS} {nx : L2.St → Hp → Prop} {rt : VK} {σ : L2.St} {H : Hp} (Pv : Nat → L2.St → Hp → Prop) (h0 : Pv 0 σ H)
    (hs : ∀ i c σ H, x.cps.toList[i]? = some c → Pv i σ H → g (.str ⟨#[c]⟩) σ H fun σ2 H2 => tb { nx := Pv (i + 1), rt := rt, bk := nx, ct := Pv (i + 1) } σ2 H2) (hd : ∀ σ H, Pv x.cps.toList.length σ H → nx σ H) :
    ∃ W : Nat → Nat → L2.St → Hp → Prop, (∃ m, W 0 m σ H) ∧ ∀ i m σ H, W i m σ H → ((Its x).stop i H ∧ nx σ H) ∨ ((Its x).go i H ∧ ∃ N : L2.St → Hp → Prop, (∀ σ' H', N σ' H' → ∃ m', m' < m ∧ W (i + 1) m' σ' H') ∧
      ∀ y H', (Its x).yld i H y H' → g y σ H' fun σ2 H2 => tb { nx := N, rt := rt, bk := nx, ct := N } σ2 H2) := by
  have hz : x.cps.toList.length = x.cps.size := Array.length_toList
  refine ⟨fun i m σ H => m = x.cps.size - i ∧ i ≤ x.cps.size ∧ Pv i σ H, ⟨x.cps.size, by simp, Nat.zero_le _, h0⟩, ?_⟩
  rintro i m σ H ⟨rfl, hi, p⟩
  by_cases hlt : i < x.cps.size
  · refine .inr ⟨hlt, Pv (i + 1), fun σ' H' p' => ⟨x.cps.size - (i + 1), by omega, rfl, hlt, p'⟩, fun y H' w => ?_⟩
    obtain ⟨e, c, hc, ey⟩ := w
    subst e ey
    exact hs i c σ _ (by rw [Array.getElem?_toList]; exact hc) p
  · have e : i = x.cps.size := by omega
    subst e
    exact .inl ⟨Nat.le_refl _, hd σ H (by rw [hz]; exact p)⟩
def Asc (z : Str) : Prop := ∀ c ∈ z.cps.toList, c < 128
theorem Asc.add {a b : Str} (ha : Asc a) (hb : Asc b) : Asc (a ++ b) := fun c h => by
  have e : (a ++ b).cps.toList = a.cps.toList ++ b.cps.toList := Array.toList_append
  rw [e] at h
  rcases List.mem_append.mp h with h | h
  · exact ha c h
  · exact hb c h
theorem Asc.cut {a : Str} (ha : Asc a) (lo hi : Option Int) : Asc (cutS a lo hi) := fun c h => by
  have h' : c ∈ (a.cps.toList.drop (HT.sIx a.length 0 lo)).take (HT.sIx a.length a.length hi - HT.sIx a.length 0 lo) := h
  exact ha c (List.mem_of_mem_drop (List.mem_of_mem_take h'))
theorem str_of (l : List Nat) : (⟨l.toArray⟩ : Str).cps.toList = l := rfl
theorem str_ext {a b : Str} (h : a.cps.toList = b.cps.toList) : a = b := by
  cases a with
  | mk a => cases b with
    | mk b => exact congrArg Str.mk (Array.ext' h)
theorem len_cps (z : Str) : z.length = z.cps.toList.length := rfl
theorem add_nil (a : Str) : a ++ (⟨#[]⟩ : Str) = a := str_ext (by show (a.cps ++ #[]).toList = _; simp)
theorem nil_add (a : Str) : (⟨#[]⟩ : Str) ++ a = a := str_ext (by show (#[] ++ a.cps).toList = _; simp)
theorem cutS_to (z : Str) (k : Nat) : cutS z none (some (k : Int)) = ⟨(z.cps.toList.take k).toArray⟩ := by
  unfold cutS
  rw [HT.sIx_nat, HT.sIx_none, List.drop_zero, Nat.sub_zero]
  congr 2
  rcases Nat.le_total k z.length with h | h
  · rw [Nat.min_eq_left h]
  · rw [Nat.min_eq_right h, List.take_of_length_le (by rw [← len_cps]; exact Nat.le_refl _), List.take_of_length_le (by rw [← len_cps]; exact h)]
theorem cutS_from (z : Str) (k : Nat) : cutS z (some (k : Int)) none = ⟨(z.cps.toList.drop k).toArray⟩ := by
  unfold cutS
  rw [HT.sIx_nat, HT.sIx_none]
  congr 2
  rcases Nat.le_total k z.length with h | h
  · rw [Nat.min_eq_left h]; exact List.take_of_length_le (by rw [List.length_drop, ← len_cps]; exact Nat.le_refl _)
  · rw [Nat.min_eq_right h, Nat.sub_self, List.take_zero, List.drop_eq_nil_of_le (by rw [← len_cps]; exact h)]
theorem starts_cut (w y : Str) : Txt.startswith w y = decide (cutS w none (some (y.length : Int)) = y) := by
  have e : Builtin.Str.subAt w y 0 = decide (w.cps.toList.take y.length = y.cps.toList) := by
    unfold Builtin.Str.subAt
    rw [Bool.eq_iff_iff, beq_iff_eq, decide_eq_true_iff, ← Array.toList_inj]
    simp
  unfold Txt.startswith
  rw [e, cutS_to, Bool.eq_iff_iff, Bool.and_eq_true, decide_eq_true_iff, decide_eq_true_iff, decide_eq_true_iff]
  constructor
  · rintro ⟨_, h⟩
    exact str_ext h
  · intro h
    have h' : w.cps.toList.take y.length = y.cps.toList := congrArg (fun z : Str => z.cps.toList) h
    refine ⟨?_, h'⟩
    have := congrArg List.length h'
    rw [List.length_take, ← len_cps, ← len_cps] at this
    omega
theorem asc_dec {z : Str} (h : (z.cps.toList.all fun c => decide (c < 128)) = true) : Asc z := fun c hc => of_decide_eq_true (List.all_eq_true.mp h c hc)
theorem emp_iff {z : Str} : z = "" ↔ z.cps.toList = [] := by
  constructor
  · rintro rfl; decide +kernel
  · intro h
    exact str_ext (h.trans (by decide +kernel))
theorem ixCharA {z : Str} {c : Int} {Q : VK} {H : Hp} (h0 : 0 < z.length) (h1 : z.length ≤ 1000) (hA : Asc z) (q : ∀ y : Str, y.length = 1 → Asc y → Q (.str y) H) : (0 : Int) < z.length ∧ rIxS (.str z) (.int (c % (z.length : Int))) H Q := by
  refine ⟨by omega, ?_⟩
  obtain ⟨k, ek, hk⟩ : ∃ k : Nat, c % (z.length : Int) = (k : Int) ∧ k < z.length := ⟨(c % (z.length : Int)).toNat, by have := Int.emod_nonneg c (show (z.length : Int) ≠ 0 by omega); omega, by have := Int.emod_lt_of_pos c (show (0 : Int) < z.length by omega); have := Int.emod_nonneg c (show (z.length : Int) ≠ 0 by omega); omega⟩
  rw [ek]
  have hk' : k < z.cps.toList.length := hk
  refine ⟨z, _, z.cps.toList[k], rfl, rfl, small64 (by omega), atI_nat (List.getElem?_eq_getElem hk'), q _ rfl fun d hd => ?_⟩
  have e : d = z.cps.toList[k] := List.mem_singleton.mp hd
  rw [e]; exact hA _ (List.getElem_mem _)
theorem ixCharN {z : Str} {k : Nat} {Q : VK} {H : Hp} (hk : k < z.length) (h1 : z.length ≤ 1000) (hA : Asc z) (q : ∀ y : Str, y.length = 1 → Asc y → Q (.str y) H) : rIxS (.str z) (.int (k : Int)) H Q := by
  have hk' : k < z.cps.toList.length := hk
  refine ⟨z, _, z.cps.toList[k], rfl, rfl, small64 (by omega), atI_nat (List.getElem?_eq_getElem hk'), q _ rfl fun d hd => ?_⟩
  have e : d = z.cps.toList[k] := List.mem_singleton.mp hd
  rw [e]; exact hA _ (List.getElem_mem _)

/-! ### strings, printed and read back -/
def hx (d : Nat) : Nat := if d < 10 then 48 + d else 87 + d
def plain (b : Nat) : Bool := decide (32 ≤ b) && decide (b ≤ 126) && !decide (b = 34) && !decide (b = 37) && !decide (b = 92)
def esc (b : Nat) : List Nat := if plain b = true then [b] else [92, hx (b / 16), hx (b % 16)]
def sz (l : List Nat) : Str := ⟨l.toArray⟩
def iv (b : Nat) : V := .int (b : Int)
def inner (bs : List Nat) : List Nat := bs.flatMap esc
def tok (bs : List Nat) : List Nat := 34 :: (inner bs ++ [34])
def By (bs : List Nat) : Prop := ∀ b ∈ bs, b ≤ 255
theorem sz_add (a b : List Nat) : sz a ++ sz b = sz (a ++ b) := str_ext (by show (a.toArray ++ b.toArray).toList = a ++ b; simp)
theorem sz_len (a : List Nat) : (sz a).length = a.length := rfl
theorem esc_len (b : Nat) : (esc b).length ≤ 3 := by unfold esc; split <;> simp
theorem inner_len (bs : List Nat) : (inner bs).length ≤ 3 * bs.length := by
  induction bs with
  | nil => exact Nat.le_refl _
  | cons b r ih =>
    show (esc b ++ inner r).length ≤ 3 * (r.length + 1)
    have := esc_len b
    rw [List.length_append]; omega
theorem tok_len (bs : List Nat) : (tok bs).length = (inner bs).length + 2 := by unfold tok; simp
theorem lit_sz {z : Str} {l : List Nat} (h : z.cps.toList = l) : z = sz l := str_ext h
theorem ch_low : ∀ b < 256, (32 ≤ b ∧ b ≤ 36) → (" !\"#$" : Str).cps.toList[b - 32]? = some b := by decide +kernel
theorem ch_high : ∀ b < 256, (38 ≤ b ∧ b ≤ 126) → ("&'()*+,-./0123456789:;<=>?@ABCDEFGHIJKLMNOPQRSTUVWXYZ[\\]^_`abcdefghijklmnopqrstuvwxyz{|}~" : Str).cps.toList[b - 38]? = some b := by decide +kernel
theorem ch_hex : ∀ d < 16, ("0123456789abcdef" : Str).cps.toList[d]? = some (hx d) := by decide +kernel
theorem ch_law : ∀ b < 256, (32 ≤ b ∧ b ≤ 126 ∧ b ≠ 37) → (" !\"#$&'()*+,-./0123456789:;<=>?@ABCDEFGHIJKLMNOPQRSTUVWXYZ[\\]^_`" ++ "abcdefghijklmnopqrstuvwxyz{|}~" : Str).cps.toList[b - 32 - (if b > 37 then 1 else 0)]? = some b := by decide +kernel
theorem at_char {z : Str} {k c : Nat} (h : z.cps.toList[k]? = some c) : atI z.cps.toList (k : Int) = some c := atI_nat h
theorem app_cps (a b : Str) : (a ++ b).cps.toList = a.cps.toList ++ b.cps.toList := Array.toList_append
theorem join0 : ∀ ys : List Str, (PySem.Str.join "" ys).cps.toList = ys.flatMap fun y => y.cps.toList
  | [] => rfl
  | [x] => by show x.cps.toList = x.cps.toList ++ []; rw [List.append_nil]
  | x :: y :: r => by
    show (x ++ "" ++ PySem.Str.join "" (y :: r)).cps.toList = x.cps.toList ++ (y :: r).flatMap fun y => y.cps.toList
    rw [app_cps, app_cps, join0 (y :: r), show ("" : Str).cps.toList = [] by decide +kernel, List.append_nil]
theorem join_esc (bs : List Nat) : Txt.join "" (bs.map fun b => sz (esc b)) = sz (inner bs) := by
  refine str_ext ?_
  show (Builtin.Str.glued "" _).cps.toList = inner bs
  rw [PySem.StrLaws.glued_eq_join, join0, List.flatMap_map]
  rfl
def optC (b : Nat) : V := if 32 ≤ b ∧ b ≤ 126 ∧ b ≠ 37 then .str (sz [b]) else .non
def fE : V → V
  | .int n => .str (sz (esc n.toNat))
  | v => v
def sp_character_of (K : PySem.W.Frag) (cs : Cs) : Sp := fun vs H Q _ => ∃ b : Nat, vs = [iv b] ∧ b ≤ 255 ∧ Q (optC b) H
def sp_print_byte (K : PySem.W.Frag) (cs : Cs) : Sp := fun vs H Q _ => ∃ b : Nat, vs = [iv b] ∧ b ≤ 255 ∧ ∀ H', Same H H' → Q (.str (sz (esc b))) H'
def sp_print_string (K : PySem.W.Frag) (cs : Cs) : Sp := fun vs H Q _ => ∃ (a : Addr) (bs : List Nat), vs = [.ref a] ∧ (SqL K H a (bs.map iv) ∨ SqT K H a (bs.map iv)) ∧ By bs ∧ bs.length ≤ 63 ∧ ∀ H', Same H H' → Q (.str (sz (tok bs))) H'
/-- the object that reads the text z, at the place k of its first line -/
def SC (cs : Cs) (H : Hp) (p : Addr) (z : Str) (k : Nat) : Prop := ∃ dx, H p = some (.ins cs.C_Scanner dx (fs_Scanner (.str z) (.int (k : Int)) (.int 1) (.int 0)))
def One (z : Str) : Prop := z.length ≤ 1000 ∧ ∀ c ∈ z.cps.toList, c ≠ 10 ∧ c ≠ 9
theorem cutS_mid (z : Str) (k n : Nat) : cutS z (some (k : Int)) (some ((k : Int) + (n : Int))) = sz ((z.cps.toList.drop k).take n) := by
  unfold cutS sz
  rw [show (k : Int) + (n : Int) = ((k + n : Nat) : Int) by omega, HT.sIx_nat, HT.sIx_nat]
  congr 2
  have hz : z.cps.toList.length = z.length := rfl
  rcases Nat.le_total k z.length with h | h
  · rw [Nat.min_eq_left h]
    rcases Nat.le_total (k + n) z.length with h2 | h2
    · rw [Nat.min_eq_left h2, Nat.add_sub_cancel_left]
    · rw [Nat.min_eq_right h2, List.take_of_length_le (by rw [List.length_drop]; omega), List.take_of_length_le (by rw [List.length_drop]; omega)]
  · rw [Nat.min_eq_right h, List.drop_of_length_le (by omega), List.drop_of_length_le (by omega)]; simp
theorem dig_hex : ∀ d < 16, Txt.find "0123456789abcdef" (Txt.lower (sz [hx d])) = (d : Int) := by decide +kernel
def e0 : List (Str × V) := [("t", .int 9), ("n", .int 10), ("\"", .int 34), ("'", .int 39), ("\\", .int 92)]
theorem esc_no0 : ∀ a < 16, (valS e0 (sz [hx a])).isSome = false := by decide +kernel
theorem esc_no (cs : Cs) {a : Nat} (h : a < 16) : (valS (v_ESCAPES cs) (sz [hx a])).isSome = false := esc_no0 a h
def sp_Scanner___init__ (K : PySem.W.Frag) (cs : Cs) : Sp := fun vs H Q _ => ∃ (p dx : Addr) (z : Str), vs = [.ref p, .str z] ∧ H p = some (.ins cs.C_Scanner dx []) ∧ ∀ H', SC cs H' p z 0 → SameBut [p] H H' → Q .non H'
def sp_Scanner_position (K : PySem.W.Frag) (cs : Cs) : Sp := fun vs H Q _ => ∃ (p : Addr) (z : Str) (k : Nat), vs = [.ref p] ∧ SC cs H p z k ∧ ∀ t H', Same H H' → H t = none → H' t = some (.tup [.int 1, .int ((k : Int) + 1)]) → Q (.ref t) H'
def sp_Scanner_ahead (K : PySem.W.Frag) (cs : Cs) : Sp := fun vs H Q _ => ∃ (p : Addr) (z : Str) (k n : Nat), vs = [.ref p, .int (n : Int)] ∧ SC cs H p z k ∧ One z ∧ Q (.str (sz ((z.cps.toList.drop k).take n))) H
def sp_Scanner_skip (K : PySem.W.Frag) (cs : Cs) : Sp := fun vs H Q _ => ∃ (p : Addr) (z : Str) (k n : Nat), vs = [.ref p, .int (n : Int)] ∧ SC cs H p z k ∧ One z ∧ k + n ≤ z.length ∧ ∀ H', SC cs H' p z (k + n) → SameBut [p] H H' → Q .non H'
def sp_digit_of (K : PySem.W.Frag) (cs : Cs) : Sp := fun vs H Q _ => ∃ d : Nat, vs = [.str (sz [hx d])] ∧ d < 16 ∧ Q (.int (d : Int)) H
def sp_check_in_string (K : PySem.W.Frag) (cs : Cs) : Sp := fun vs H Q _ => ∃ (p : Addr) (z : Str) (k : Nat), vs = [.ref p] ∧ SC cs H p z k ∧ One z ∧ k < z.length ∧ ∀ H', Same H H' → Q .non H'
def sp_read_escape (K : PySem.W.Frag) (cs : Cs) : Sp := fun vs H Q _ => ∃ (p : Addr) (z : Str) (k a b : Nat) (r : List Nat), vs = [.ref p] ∧ SC cs H p z k ∧ One z ∧ z.cps.toList.drop k = 92 :: hx a :: hx b :: r ∧ a < 16 ∧ b < 16 ∧ ∀ H', SC cs H' p z (k + 3) → SameBut [p] H H' → Q (.int ((a : Int) * 16 + b)) H'
def sp_read_string (K : PySem.W.Frag) (cs : Cs) : Sp := fun vs H Q _ => ∃ (p : Addr) (z : Str) (bs : List Nat), vs = [.ref p] ∧ SC cs H p z 0 ∧ One z ∧ z.cps.toList = tok bs ∧ By bs ∧ bs.length ≤ 63 ∧ ∀ t H', SC cs H' p z (tok bs).length → SameBut [p] H H' → H' t = some (.tup (bs.map iv)) → Q (.ref t) H'
def sp_skip_blanks (K : PySem.W.Frag) (cs : Cs) : Sp := fun vs H Q _ => ∃ (p : Addr) (z : Str) (k : Nat), vs = [.ref p] ∧ SC cs H p z k ∧ One z ∧ (z.cps.toList.drop k = [] ∨ ∃ r, z.cps.toList.drop k = 34 :: r) ∧ Q .non H
theorem esc_ok (b : Nat) : ∀ c ∈ esc b, c ≠ 10 ∧ c ≠ 9 := by
  intro c hc
  unfold esc at hc
  split at hc
  · rename_i hp
    rw [List.mem_singleton] at hc
    unfold plain at hp
    simp at hp
    omega
  · have h1 : ∀ d, hx d ≠ 10 ∧ hx d ≠ 9 := fun d => by unfold hx; split <;> omega
    rcases List.mem_cons.mp hc with rfl | hc
    · decide
    rcases List.mem_cons.mp hc with rfl | hc
    · exact h1 _
    · rw [List.mem_singleton.mp hc]; exact h1 _
theorem one_tok {bs : List Nat} (hB : By bs) (hl : bs.length ≤ 63) : One (sz (tok bs)) := by
  refine ⟨by rw [sz_len, tok_len]; have := inner_len bs; omega, fun c hc => ?_⟩
  have hc' : c ∈ tok bs := hc
  unfold tok at hc'
  rcases List.mem_cons.mp hc' with rfl | hc'
  · decide
  rcases List.mem_append.mp hc' with hc' | hc'
  · obtain ⟨b, _, h⟩ := List.mem_flatMap.mp hc'
    exact esc_ok b c h
  · rw [List.mem_singleton.mp hc']; decide
def f8 : V → V
  | .int n => .int (n % 256)
  | v => v
def sp_read_token (K : PySem.W.Frag) (cs : Cs) : Sp := fun vs H Q _ => ∃ (p : Addr) (z : Str) (bs : List Nat) (k : Nat), vs = [.ref p] ∧ SC cs H p z k ∧ One z ∧ z.cps.toList = tok bs ∧ By bs ∧ bs.length ≤ 63 ∧
  ((k = 0 ∧ ∀ t d H', SC cs H' p z (tok bs).length → SameBut [p] H H' → H' d = some (.tup (bs.map iv)) → H' t = some (.tup [.str "string", .ref d]) → Q (.ref t) H') ∨
   (k = (tok bs).length ∧ ∀ t H', Same H H' → H' t = some (.tup [.str "end", .str ""]) → Q (.ref t) H'))
def sp_tokens_of (K : PySem.W.Frag) (cs : Cs) : Sp := fun vs H Q _ => ∃ (bs : List Nat), vs = [.str (sz (tok bs))] ∧ By bs ∧ bs.length ≤ 63 ∧
  ∀ p t1 t2 d H', Same H H' → H' p = some (.lst [.ref t1, .ref t2]) → H' t1 = some (.tup [.str "string", .ref d, .int 1, .int 1]) → H' d = some (.tup (bs.map iv)) → H' t2 = some (.tup [.str "end", .str "", .int 1, .int (((tok bs).length : Int) + 1)]) → Q (.ref p) H'
/-- two values that are the same data, tuples nested at most d deep -/
def Al (K : PySem.W.Frag) (H : Hp) : Nat → V → V → Prop
  | 0, x, y => x = y ∧ ((∃ n, x = .int n) ∨ ∃ z, x = .str z ∧ PyData.strOk z = true)
  | d + 1, x, y => (x = y ∧ ((∃ n, x = .int n) ∨ ∃ z, x = .str z ∧ PyData.strOk z = true)) ∨ ∃ (a b : Addr) (xs ys : List V), x = .ref a ∧ y = .ref b ∧ H a = some (.tup xs) ∧ H b = some (.tup ys) ∧ xs.length = ys.length ∧ xs.length ≤ 1000 ∧ ∀ i, i < xs.length → Al K H d (xs.getD i .non) (ys.getD i .non)
def sp__law_alike (K : PySem.W.Frag) (cs : Cs) (d : Nat) : Sp := fun vs H Q _ => ∃ x y : V, vs = [x, y] ∧ Al K H d x y ∧ Q (.bl true) H
def sp__law_alike_at (K : PySem.W.Frag) (cs : Cs) : Nat → Sp
  | 0 => fun _ _ _ _ => False
  | d + 1 => sp__law_alike K cs d
def sp__law_char (K : PySem.W.Frag) (cs : Cs) : Sp := fun vs H Q _ => ∃ b : Nat, vs = [.int ((b : Int) - 32 - (if decide ((37 : Int) < (b : Int)) = true then 1 else 0))] ∧ b < 256 ∧ (32 ≤ b ∧ b ≤ 126 ∧ b ≠ 37) ∧ Q (.str (sz [b])) H
def sp__law_bytes (K : PySem.W.Frag) (cs : Cs) : Sp := fun vs H Q _ => ∃ (a : Addr) (ns : List Int), vs = [.ref a] ∧ SqL K H a (ns.map V.int) ∧ ns.length ≤ 63 ∧ ∀ (bs : List Nat) p H', By bs → bs.length ≤ 63 → Same H H' → H' p = some (.lst (bs.map iv)) → Q (.ref p) H'
def sp__law_due (K : PySem.W.Frag) (cs : Cs) : Sp := fun vs H Q _ => ∃ (a : Addr) (bs : List Nat), vs = [.ref a] ∧ SqL K H a (bs.map iv) ∧ By bs ∧ bs.length ≤ 63 ∧ ∀ H', Same H H' → Q (.str (sz (tok bs))) H'
def sp_lawK (K : PySem.W.Frag) : Sp := fun vs H Q _ => ∃ (a : Addr) (ns : List Int), vs = [.ref a] ∧ SqL K H a (ns.map V.int) ∧ ns.length ≤ 63 ∧ ∀ H', Q (.bl true) H'
abbrev sp_law (K : PySem.W.Frag) (_ : Cs) : Sp := sp_lawK K
section
variable {P : Program} {w : World} {K : PySem.W.Frag} {mg : Str → Option Value} {base : Heap} {cs : Cs}
theorem c_character_of (D : Def K mg "character_of" s_character_of ["code"]) (T : Tp w K mg cs)  : Cal P w K mg base CX0 1 "character_of" (sp_character_of K cs) := by
  refine D.ok sc_character_of (fun vs H Q E h => ?_) (fun f cdv A outer s H vs Q E hr h => ?_)
  · obtain ⟨b, rfl, _⟩ := h; rfl
  · obtain ⟨b, rfl, hb, q⟩ := h
    refine ⟨_, (C8.pss_cut (ps_if (pt_chain op_le op_le pe_int (pv 0) pe_int) (pss_one (ps_ret (pe_ix ix_str (pe_gstr (by rfl) T.w_LOW_CHARACTERS) (pe_op op_sub (pv 0) pe_int) (fun _ _ => rfl)))) pss_nil)
      (pss_cons (ps_if (pt_chain op_le op_le pe_int (pv 0) pe_int) (pss_one (ps_ret (pe_ix ix_str (pe_gstr (by rfl) T.w_HIGH_CHARACTERS) (pe_op op_sub (pv 0) pe_int) (fun _ _ => rfl)))) pss_nil)
      (pss_one (ps_ret pe_non)))), ?_⟩
    have lowS : (" !\"#$" : Str).length ≤ sizeLine := small64 (by decide +kernel)
    have highS : ("&'()*+,-./0123456789:;<=>?@ABCDEFGHIJKLMNOPQRSTUVWXYZ[\\]^_`abcdefghijklmnopqrstuvwxyz{|}~" : Str).length ≤ sizeLine := small64 (by decide +kernel)
    refine ⟨fun σ H2 => H = H2 ∧ σ = [some (iv b)] ∧ ¬ (32 ≤ b ∧ b ≤ 36), ?_, ?_⟩
    · walk_at "go"
      refine ite2 (fun c1 => ?_) (fun c1 => ?_)
      · walk_at "go"
        refine ite2 (fun c => ?_) (fun c => ?_)
        · have c0 : (32 : Int) ≤ b := of_decide_eq_true c1
          have c' : (b : Int) ≤ 36 := of_decide_eq_true c
          have h := ch_low b (by omega) ⟨by omega, by omega⟩
          walk_at "go"
          show rIxS _ (.int ((b : Int) - 32)) H _
          rw [show (b : Int) - 32 = ((b - 32 : Nat) : Int) by omega]
          refine ⟨_, _, b, rfl, rfl, lowS, at_char h, ?_⟩
          rw [show optC b = .str (sz [b]) from if_pos ⟨by omega, by omega, by omega⟩] at q
          exact q
        have c' : ¬ (b : Int) ≤ 36 := of_decide_eq_false (Bool.eq_false_iff.mpr c)
        exact ⟨rfl, rfl, by omega⟩
      · have c0 : ¬ (32 : Int) ≤ b := of_decide_eq_false (Bool.eq_false_iff.mpr c1)
        exact ⟨_, rfl, rfl, rfl, by omega⟩
    rintro _ _ ⟨rfl, rfl, hn⟩
    walk_at "go"
    refine ite2 (fun c1 => ?_) (fun c1 => ?_)
    · walk_at "go"
      refine ite2 (fun c => ?_) (fun c => ?_)
      · have c0 : (38 : Int) ≤ b := of_decide_eq_true c1
        have c' : (b : Int) ≤ 126 := of_decide_eq_true c
        have h := ch_high b (by omega) ⟨by omega, by omega⟩
        walk_at "go"
        show rIxS _ (.int ((b : Int) - 38)) H _
        rw [show (b : Int) - 38 = ((b - 38 : Nat) : Int) by omega]
        refine ⟨_, _, b, rfl, rfl, highS, at_char h, ?_⟩
        rw [show optC b = .str (sz [b]) from if_pos ⟨by omega, by omega, by omega⟩] at q
        exact q
      have c' : ¬ (b : Int) ≤ 126 := of_decide_eq_false (Bool.eq_false_iff.mpr c)
      rw [show optC b = .non from if_neg (by omega)] at q
      walk_at "go"
      exact q
    · have c0 : ¬ (38 : Int) ≤ b := of_decide_eq_false (Bool.eq_false_iff.mpr c1)
      rw [show optC b = .non from if_neg (by omega)] at q
      walk_at "go"
      exact q
theorem c_print_byte (D : Def K mg "print_byte" s_print_byte ["byte"]) (T : Tp w K mg cs) (c_character_of : Cal P w K mg base CX0 1 "character_of" (sp_character_of K cs)) : Cal P w K mg base CX0 2 "print_byte" (sp_print_byte K cs) := by
  refine D.ok sc_print_byte (fun vs H Q E h => ?_) (fun f cdv A outer s H vs Q E hr h => ?_)
  · obtain ⟨b, rfl, _⟩ := h; rfl
  · obtain ⟨b, rfl, hb, q⟩ := h
    refine ⟨_, (pss_cons (ps_set (i := 1) sc_print_byte.nd rfl (by first | exact Or.inl rfl | exact Or.inr rfl) (pe_c c_character_of hr (by decide) (by rfl) (pa_cons (pv 0) pa_nil)))
      (C8.pss_cut (ps_if (PW.pt (pw_or (pt_cmpR op_isN (pv 1) pe_non (by first | rfl | exact nomark _)) (pw_or1 (pt_cmpR op_in_seq (pv 0) (pe_tup (pa_cons (pe_gint (by rfl) T.i_QUOTE) (pa_cons (pe_gint (by rfl) T.i_BACKSLASH) pa_nil))) (by first | rfl | exact nomark _))))) (pss_one (ps_ret (pe_op op_add_str (pe_op op_add_str pe_str (pe_ix ix_str (pe_gstr (by rfl) T.w_HEXADECIMAL) (pe_op op_fdiv (pv 0) pe_int) (fun _ _ => rfl))) (pe_ix ix_str (pe_gstr (by rfl) T.w_HEXADECIMAL) (pe_op op_mod (pv 0) pe_int) (fun _ _ => rfl))))) pss_nil)
      (pss_one (ps_ret (pv 1))))), ?_⟩
    have hexS : ("0123456789abcdef" : Str).length ≤ sizeLine := small64 (by decide +kernel)
    refine ⟨_, rfl, b, rfl, hb, ?_⟩
    refine ⟨fun σ H2 => Same H H2 ∧ plain b = true ∧ σ = [some (iv b), some (optC b)], ?_, ?_⟩
    · have esc0 : ∀ H2, Same H H2 → plain b = false → tRet
          (tOp (fun x y H Q => ∃ i j, x = V.str i ∧ y = V.str j ∧ i.length + j.length ≤ sizeLine ∧ Q (V.str (i ++ j)) H)
            (tOp (fun x y H Q => ∃ i j, x = V.str i ∧ y = V.str j ∧ i.length + j.length ≤ sizeLine ∧ Q (V.str (i ++ j)) H) (tC (.str "\\"))
              (tOp rIxS (tC (.str "0123456789abcdef")) (tOp (rI CDiv fun i j => V.int (i / j)) (tVar 0) (tC (V.int 16)))))
            (tOp rIxS (tC (.str "0123456789abcdef")) (tOp (rI (fun x j => 0 < j) fun i j => V.int (i % j)) (tVar 0) (tC (V.int 16)))))
          { nx := fun σ H2 => Same H H2 ∧ plain b = true ∧ σ = [some (iv b), some (optC b)], rt := Q } [some (iv b), some (optC b)] H2 := by
        intro H2 s2 hp
        have e1 := ch_hex (b / 16) (by omega)
        have e2 := ch_hex (b % 16) (by omega)
        walk_at "go"
        show rIxS _ (.int ((b : Int) / 16)) H2 _
        rw [show (b : Int) / 16 = ((b / 16 : Nat) : Int) by omega]
        refine ⟨_, _, hx (b / 16), rfl, rfl, hexS, at_char e1, ?_⟩
        refine ⟨_, _, rfl, rfl, small64 (by rw [show ("\\" : Str) = sz [92] from lit_sz (by decide +kernel)]; show 1 + 1 ≤ 1000000; decide), ?_⟩
        walk_at "go"
        show rIxS _ (.int ((b : Int) % 16)) H2 _
        rw [show (b : Int) % 16 = ((b % 16 : Nat) : Int) by omega]
        refine ⟨_, _, hx (b % 16), rfl, rfl, hexS, at_char e2, ?_⟩
        refine ⟨_, _, rfl, rfl, small64 (by rw [show ("\\" : Str) = sz [92] from lit_sz (by decide +kernel)]; show 2 + 1 ≤ 1000000; decide), ?_⟩
        have e : ("\\" : Str) ++ (⟨#[hx (b / 16)]⟩ : Str) ++ (⟨#[hx (b % 16)]⟩ : Str) = sz (esc b) := by
          rw [show ("\\" : Str) = sz [92] from lit_sz (by decide +kernel), show esc b = [92, hx (b / 16), hx (b % 16)] from if_neg (by rw [hp]; decide)]
          exact (congrArg (· ++ sz [hx (b % 16)]) (sz_add [92] [hx (b / 16)])).trans (sz_add _ _)
        rw [e]
        exact q _ s2
      walk_at "go"
      by_cases hc : 32 ≤ b ∧ b ≤ 126 ∧ b ≠ 37
      · have eo : optC b = .str (sz [b]) := if_pos hc
        rw [show decide (optC b = V.non) = false by rw [eo]; exact decide_eq_false (fun z => by cases z)]
        walk_at "go"
        intro t ht
        walk_at "go"
        refine ⟨t, [.int 34, .int 92], rfl, .inr (SqT.of upd_same), rfl, rfl, ?_⟩
        have ei : inV (iv b) [.int 34, .int 92] = (decide (b = 34) || decide (b = 92)) := by
          unfold inV iv
          show (((34 : Int) == (b : Int)) || (((92 : Int) == (b : Int)) || false)) = _
          rw [Bool.or_false, Bool.eq_iff_iff]
          simp
          omega
        rw [show (if false = true then !inV (iv b) [V.int 34, V.int 92] else inV (iv b) [V.int 34, V.int 92]) = (decide (b = 34) || decide (b = 92)) from ei]
        by_cases hq : b = 34 ∨ b = 92
        · have hp : plain b = false := by
            unfold plain
            rw [Bool.eq_false_iff]
            intro z
            simp at z
            omega
          rw [show (decide (b = 34) || decide (b = 92)) = true by simpa using hq]
          exact ⟨_, rfl, esc0 _ (Same.new ht) hp⟩
        · have hp : plain b = true := by
            unfold plain
            simp
            omega
          rw [show (decide (b = 34) || decide (b = 92)) = false by simpa using hq]
          exact ⟨_, rfl, Same.new ht, hp, rfl⟩
      · have eo : optC b = .non := if_neg hc
        have hp : plain b = false := by
          unfold plain
          rw [Bool.eq_false_iff]
          intro z
          simp at z
          omega
        have hd : decide (optC b = V.non) = true := by rw [eo]; rfl
        rw [hd]
        exact esc0 H (Same.refl _) hp
    rintro _ H2 ⟨s2, hp, rfl⟩
    walk_at "go"
    rw [show optC b = .str (sz (esc b)) by
      unfold plain at hp
      simp at hp
      unfold esc plain optC
      rw [if_pos ⟨by omega, by omega, by omega⟩, if_pos (by simp; omega)]]
    exact q _ s2
theorem c_print_string (D : Def K mg "print_string" s_print_string ["data"]) (T : Tp w K mg cs) (c_print_byte : Cal P w K mg base CX0 2 "print_byte" (sp_print_byte K cs)) : Cal P w K mg base CX0 3 "print_string" (sp_print_string K cs) := by
  refine D.ok sc_print_string (fun vs H Q E h => ?_) (fun f cdv A outer s H vs Q E hr h => ?_)
  · obtain ⟨a, bs, rfl, _⟩ := h; rfl
  · obtain ⟨a, bs, rfl, hS, hB, hl, q⟩ := h
    refine ⟨_, (pss_one (ps_ret (pe_op op_add_str (pe_op op_add_str pe_str (pe_join pe_str (pe_lc (own := [("byte", 1)]) (g := gName 1) (tt := tYes) (by rfl) sc_print_string.nd (pi_or (pi_list (pv 0)) (pi_tup (pv 0))) (blkOk_by (own := [("byte", 1)]) (N := ["data", "byte"]) (sc := defScope s_print_string) (by decide +kernel)) (fun _ _ _ _ _ => (pg_name (i := 1) sc_print_string.nd rfl (by first | exact Or.inl rfl | exact Or.inr rfl))) (fun _ _ _ _ _ => pts_nil) (fun _ _ _ _ _ => (pe_c c_print_byte hr (by decide) (by rfl) (pa_cons (pv 1) pa_nil)))))) pe_str))), ?_⟩
    have step : ∀ (x : V) (H2 : Hp) (Q2 : VK), x ∈ bs.map iv → (∀ H', Same H2 H' → Q2 (fE x) H') → sp_print_byte K cs [x] H2 Q2 E0 := by
      intro x H2 Q2 hx q2
      obtain ⟨b, hb, rfl⟩ := List.mem_map.mp hx
      exact ⟨b, rfl, hB b hb, q2⟩
    have sum3 : ∀ l : List Nat, ((l.map fun b => sz (esc b)).map (fun x : Str => x.length)).sum ≤ 3 * l.length := by
      intro l
      induction l with
      | nil => exact Nat.le_refl _
      | cons b r ih =>
        have h1 : (sz (esc b)).length ≤ 3 := esc_len b
        rw [List.map_cons, List.map_cons, List.sum_cons, List.length_cons]
        omega
    have h3 := sum3 bs
    have e0 : ("" : Str).length = 0 := by decide +kernel
    have eq1 : ("\"" : Str) = sz [34] := lit_sz (by decide +kernel)
    have ln := inner_len bs
    refine ⟨⟨_, rfl⟩, ?_⟩
    rcases hS with hS | hT
    · refine .inl ⟨_, rfl, a, rfl, ⟨_, hS⟩, fun D hD => ?_⟩
      refine lc_map (xs := bs.map iv) (j := 1) fE hD hS (by rw [List.length_map]; omega) (fun x H2 Q2 hx s2 q2 => ?_) (fun H2 s2 hD2 => ?_)
      · exact ⟨_, rfl, step x H2 Q2 hx q2⟩
      · refine ⟨"", D, bs.map (fun b => sz (esc b)), rfl, rfl, .inl (SqL.of (by rw [hD2, List.map_map, List.map_map]; rfl)), by rw [e0, Nat.mul_zero]; omega, ?_⟩
        rw [join_esc, eq1]
        refine ⟨_, _, rfl, rfl, small64 (by rw [sz_len, sz_len, List.length_singleton]; omega), ?_⟩
        refine ⟨_, _, rfl, rfl, small64 (by rw [sz_add, sz_len, sz_len, List.length_append, List.length_singleton]; omega), ?_⟩
        rw [sz_add, sz_add]
        exact q _ s2
    · refine .inr ⟨_, rfl, a, rfl, ⟨_, hT⟩, fun D hD => ?_⟩
      refine lc_mapT (xs := bs.map iv) (j := 1) fE hD hT (by rw [List.length_map]; omega) (fun x H2 Q2 hx s2 q2 => ?_) (fun H2 s2 hD2 => ?_)
      · exact ⟨_, rfl, step x H2 Q2 hx q2⟩
      · refine ⟨"", D, bs.map (fun b => sz (esc b)), rfl, rfl, .inl (SqL.of (by rw [hD2, List.map_map, List.map_map]; rfl)), by rw [e0, Nat.mul_zero]; omega, ?_⟩
        rw [join_esc, eq1]
        refine ⟨_, _, rfl, rfl, small64 (by rw [sz_len, sz_len, List.length_singleton]; omega), ?_⟩
        refine ⟨_, _, rfl, rfl, small64 (by rw [sz_add, sz_len, sz_len, List.length_append, List.length_singleton]; omega), ?_⟩
        rw [sz_add, sz_add]
        exact q _ s2
theorem c_Scanner___init__ (D : DefI K (Cs.C_Scanner cs) "Scanner.__init__" s_Scanner___init__ ["self", "text"]) (T : Tp w K mg cs)  : CalI P w K mg base CX0 (Cs.C_Scanner cs) 1 (sp_Scanner___init__ K cs) := by
  refine D.ok sc_Scanner___init__ (fun vs H Q E h => ?_) (fun f cdv A outer s H vs Q E hr h => ?_)
  · obtain ⟨p, dx, z, rfl, _⟩ := h; rfl
  · obtain ⟨p, dx, z, rfl, hp, q⟩ := h
    refine ⟨_, (pss_cons (ps_fld (pv 0) (pv 1) rfl)
      (pss_cons (ps_fld (pv 0) pe_int rfl)
      (pss_cons (ps_fld (pv 0) pe_int rfl)
      (pss_one (ps_fld (pv 0) pe_int rfl))))), ?_⟩
    refine ⟨_, rfl, _, rfl, p, _, dx, _, rfl, hp, T.cl_Scanner, T.n_Scanner_text, (by show 0 < 1000; decide), ?_⟩
    rw [in_Scanner_0 (x0 := .str z) (x1 := .int 0) (x2 := .int 1) (x3 := .int 0)]
    refine ⟨_, rfl, p, _, dx, _, rfl, upd_same, T.cl_Scanner, T.n_Scanner_at, (by show 1 < 1000; decide), ?_⟩
    rw [in_Scanner_1 (x0 := .str z) (x1 := .int 0) (x2 := .int 1) (x3 := .int 0)]
    refine ⟨_, rfl, p, _, dx, _, rfl, upd_same, T.cl_Scanner, T.n_Scanner_line_number, (by show 2 < 1000; decide), ?_⟩
    rw [in_Scanner_2 (x0 := .str z) (x1 := .int 0) (x2 := .int 1) (x3 := .int 0)]
    refine ⟨_, rfl, p, _, dx, _, rfl, upd_same, T.cl_Scanner, T.n_Scanner_line_start, (by show 3 < 1000; decide), ?_⟩
    rw [in_Scanner_3 (x0 := .str z) (x1 := .int 0) (x2 := .int 1) (x3 := .int 0)]
    have m : p ∈ [p] := List.mem_singleton.mpr rfl
    exact q _ ⟨dx, upd_same⟩ (((((SameBut.refl _).upd m).upd m).upd m).upd m)
theorem c_Scanner_position (D : DefM K (Cs.C_Scanner cs) "position" "Scanner.position" s_Scanner_position ["self"]) (T : Tp w K mg cs)  : CalM P w K mg base CX0 (Cs.C_Scanner cs) 1 "position" (sp_Scanner_position K cs) := by
  refine D.ok sc_Scanner_position T.cl_Scanner (fun vs H Q E h => ?_) (fun f cdv A outer s H vs Q E hr h => ?_)
  · obtain ⟨p, z, k, rfl, _⟩ := h; rfl
  · obtain ⟨p, z, k, rfl, ⟨dx, hp⟩, q⟩ := h
    refine ⟨_, (pss_one (ps_ret (pe_tup (pa_cons (pe_fld (pv 0) rfl) (pa_cons (pe_op op_add (pe_op op_sub (pe_fld (pv 0) rfl) (pe_fld (pv 0) rfl)) pe_int) pa_nil))))), ?_⟩
    refine ⟨_, rfl, p, _, dx, _, _, rfl, hp, T.cl_Scanner, T.n_Scanner_line_number, lk_Scanner_line_number, ?_⟩
    refine ⟨_, rfl, p, _, dx, _, _, rfl, hp, T.cl_Scanner, T.n_Scanner_at, lk_Scanner_at, ?_⟩
    refine ⟨_, rfl, p, _, dx, _, _, rfl, hp, T.cl_Scanner, T.n_Scanner_line_start, lk_Scanner_line_start, ?_⟩
    walk_at "go"
    intro t ht
    refine q t _ (Same.new ht) ht ?_
    rw [upd_same, Int.sub_zero]
theorem c_Scanner_ahead (D : DefM K (Cs.C_Scanner cs) "ahead" "Scanner.ahead" s_Scanner_ahead ["self", "count"]) (T : Tp w K mg cs)  : CalM P w K mg base CX0 (Cs.C_Scanner cs) 1 "ahead" (sp_Scanner_ahead K cs) := by
  refine D.ok sc_Scanner_ahead T.cl_Scanner (fun vs H Q E h => ?_) (fun f cdv A outer s H vs Q E hr h => ?_)
  · obtain ⟨p, z, k, n, rfl, _⟩ := h; rfl
  · obtain ⟨p, z, k, n, rfl, ⟨dx, hp⟩, hz, q⟩ := h
    refine ⟨_, (pss_one (ps_ret (pe_slice sl_str (pe_fld (pv 0) rfl) (po_some (pe_fld (pv 0) rfl)) (po_some (pe_op op_add (pe_fld (pv 0) rfl) (pv 1)))))), ?_⟩
    refine ⟨_, rfl, p, _, dx, _, _, rfl, hp, T.cl_Scanner, T.n_Scanner_text, lk_Scanner_text, ?_⟩
    refine ⟨_, rfl, p, _, dx, _, _, rfl, hp, T.cl_Scanner, T.n_Scanner_at, lk_Scanner_at, ?_⟩
    refine ⟨_, rfl, _, rfl, p, _, dx, _, _, rfl, hp, T.cl_Scanner, T.n_Scanner_at, lk_Scanner_at, ?_⟩
    have hzS : z.length ≤ sizeLine := small64 (by have := hz.1; omega)
    walk_at "go"
    rw [cutS_mid]
    exact q
theorem c_Scanner_skip (D : DefM K (Cs.C_Scanner cs) "skip" "Scanner.skip" s_Scanner_skip ["self", "count"]) (T : Tp w K mg cs)  : CalM P w K mg base CX0 (Cs.C_Scanner cs) 1 "skip" (sp_Scanner_skip K cs) := by
  refine D.ok sc_Scanner_skip T.cl_Scanner (fun vs H Q E h => ?_) (fun f cdv A outer s H vs Q E hr h => ?_)
  · obtain ⟨p, z, k, n, rfl, _⟩ := h; rfl
  · obtain ⟨p, z, k, n, rfl, hC, hz, hk, q⟩ := h
    refine ⟨_, (pss_one (ps_for PassesOwn.never rfl (pi_range1 (by rfl) T.m_range (pa_cons (pv 1) pa_nil)) (pg_name (i := 2) sc_Scanner_skip.nd rfl (by first | exact Or.inl rfl | exact Or.inr rfl)) (pss_cons (ps_fldaug (pv 0) pe_int in_add)
      (pss_one (ps_if (pt_cmpR op_eq (pe_ix ix_str (pe_fld (pv 0) rfl) (pe_op op_sub (pe_fld (pv 0) rfl) pe_int) (fun _ _ => rfl)) pe_str (by first | rfl | exact nomark _)) (pss_cons (ps_fldaug (pv 0) pe_int in_add)
      (pss_one (ps_fld (pv 0) (pe_fld (pv 0) rfl) rfl))) pss_nil))))), ?_⟩
    have hn : n ≤ 1000 := by have := hz.1; omega
    walk_at "go"
    refine for_rangeD (lo := 0) (n := n) (fun i σ H2 => SC cs H2 p z (k + i) ∧ SameBut [p] H H2 ∧ ∃ o, σ = [some (.ref p), some (.int (n : Int)), o]) ⟨hC, SameBut.refl _, _, rfl⟩ ?_ ?_
    · rintro i _ H2 hi ⟨⟨dx, hp⟩, s2, o, rfl⟩
      refine ⟨_, rfl, p, _, dx, _, _, rfl, hp, T.cl_Scanner, T.n_Scanner_at, lk_Scanner_at, ?_⟩
      refine ⟨_, _, rfl, rfl, ?_⟩
      refine ⟨dx, _, hp, by show 4 < 1000; decide, ?_⟩
      rw [pt_Scanner_at]
      have s3 := s2.upd (o := .ins cs.C_Scanner dx (fs_Scanner (.str z) (.int (((k + i : Nat) : Int) + 1)) (.int 1) (.int 0))) (List.mem_singleton.mpr (rfl : p = p))
      have k3 : upd H2 p (.ins cs.C_Scanner dx (fs_Scanner (.str z) (.int (((k + i : Nat) : Int) + 1)) (.int 1) (.int 0))) p = _ := upd_same
      generalize upd H2 p (.ins cs.C_Scanner dx (fs_Scanner (.str z) (.int (((k + i : Nat) : Int) + 1)) (.int 1) (.int 0))) = H3 at s3 k3 ⊢
      have hki : k + i < z.cps.toList.length := by show k + i < z.length; omega
      have hc := hz.2 _ (List.getElem_mem hki)
      refine ⟨_, rfl, p, _, dx, _, _, rfl, k3, T.cl_Scanner, T.n_Scanner_text, lk_Scanner_text, ?_⟩
      refine ⟨_, rfl, p, _, dx, _, _, rfl, k3, T.cl_Scanner, T.n_Scanner_at, lk_Scanner_at, ?_⟩
      walk_at "go"
      show rIxS _ (.int (((k + i : Nat) : Int) + 1 - 1)) H3 _
      rw [Int.add_sub_cancel]
      refine ⟨_, _, z.cps.toList[k + i], rfl, rfl, small64 (by have := hz.1; omega), at_char (List.getElem?_eq_getElem hki), ?_⟩
      walk_at "go"
      refine ite2 (fun c => ?_) (fun c => ?_)
      · have e : (⟨#[z.cps.toList[k + i]]⟩ : Str) = "\n" := V.str.inj (of_decide_eq_true c)
        have e2 := congrArg (fun y : Str => y.cps.toList) e
        rw [show ("\n" : Str).cps.toList = [10] by decide +kernel] at e2
        exact absurd (List.cons.inj e2).1 hc.1
      · exact ⟨⟨dx, k3⟩, s3, _, rfl⟩
    · rintro _ H2 ⟨h2, s2, o, rfl⟩
      exact q _ h2 s2
theorem c_digit_of (D : Def K mg "digit_of" s_digit_of ["character"]) (T : Tp w K mg cs)  : Cal P w K mg base CX0 1 "digit_of" (sp_digit_of K cs) := by
  refine D.ok sc_digit_of (fun vs H Q E h => ?_) (fun f cdv A outer s H vs Q E hr h => ?_)
  · obtain ⟨d, rfl, _⟩ := h; rfl
  · obtain ⟨d, rfl, hd, q⟩ := h
    refine ⟨_, (pss_cons (ps_set (i := 1) sc_digit_of.nd rfl (by first | exact Or.inl rfl | exact Or.inr rfl) (pe_m1 PySem.F.slot_str_find PySem.F.type_str_find mt_find (pe_gstr (by rfl) T.w_DIGITS) (pe_lower (pv 0))))
      (pss_cons (ps_if (pt_cmpR op_lt (pv 1) pe_int (by first | rfl | exact nomark _)) (pss_one (ps_ret pe_non)) pss_nil)
      (pss_one (ps_ret (pv 1))))), ?_⟩
    refine ⟨⟨_, rfl⟩, ?_⟩
    refine ⟨_, rfl, ⟨_, rfl⟩, ?_⟩
    refine ⟨_, rfl, rfl, by show 1 ≤ 5592405; decide, ?_⟩
    refine ⟨_, _, rfl, rfl, ?_⟩
    rw [dig_hex d hd]
    walk_at "go"
    exact q
theorem c_check_in_string (D : Def K mg "check_in_string" s_check_in_string ["scanner"]) (T : Tp w K mg cs) (c_Scanner_ahead : CalM P w K mg base CX0 (Cs.C_Scanner cs) 1 "ahead" (sp_Scanner_ahead K cs)) (c_Scanner_position : CalM P w K mg base CX0 (Cs.C_Scanner cs) 1 "position" (sp_Scanner_position K cs)) : Cal P w K mg base CX0 3 "check_in_string" (sp_check_in_string K cs) := by
  refine D.ok sc_check_in_string (fun vs H Q E h => ?_) (fun f cdv A outer s H vs Q E hr h => ?_)
  · obtain ⟨p, z, k, rfl, _⟩ := h; rfl
  · obtain ⟨p, z, k, rfl, ⟨dx, hp⟩, hz, hk, q⟩ := h
    refine ⟨_, (pss_one (ps_if (pt_cmpR op_in_seq (pe_mE c_Scanner_ahead hr (by decide) pass0 (pv 0) (pa_cons pe_int pa_nil)) (pe_tup (pa_cons pe_str (pa_cons pe_str (pa_cons pe_str pa_nil)))) (by first | rfl | exact nomark _)) (pss_cons ps_never
      (pss_one ps_never)) pss_nil)), ?_⟩
    refine ⟨_, rfl, p, dx, _, rfl, hp, no_Scanner_ahead, ?_⟩
    refine ⟨p, z, k, 1, rfl, ⟨dx, hp⟩, hz, ?_⟩
    have hk2 : k < z.cps.toList.length := hk
    have hc := hz.2 _ (List.getElem_mem hk2)
    have ed : (z.cps.toList.drop k).take 1 = [z.cps.toList[k]] := by rw [List.drop_eq_getElem_cons hk2]; rfl
    rw [ed]
    walk_at "go"
    intro t ht
    walk_at "go"
    refine ⟨t, [.str "", .str "\n", .str "\t"], rfl, .inr (SqT.of upd_same), rfl, rfl, ?_⟩
    have ei : inV (.str (sz [z.cps.toList[k]])) [.str "", .str "\n", .str "\t"] = false := by
      rw [Bool.eq_false_iff]
      intro h
      have h2 := (inV_mem (sz [z.cps.toList[k]]) ["", "\n", "\t"]).mp h
      have n0 : ("" : Str).cps.toList = [] := by decide +kernel
      have n1 : ("\n" : Str).cps.toList = [10] := by decide +kernel
      have n2 : ("\t" : Str).cps.toList = [9] := by decide +kernel
      have hs : (sz [z.cps.toList[k]]).cps.toList = [z.cps.toList[k]] := rfl
      rcases List.mem_cons.mp h2 with e | h2
      · rw [e, n0] at hs; cases hs
      rcases List.mem_cons.mp h2 with e | h2
      · rw [e, n1] at hs; exact hc.1 (List.cons.inj hs).1.symm
      · rw [List.mem_singleton.mp h2, n2] at hs; exact hc.2 (List.cons.inj hs).1.symm
    rw [show (if false = true then !inV (V.str (sz [z.cps.toList[k]])) [.str "", .str "\n", .str "\t"] else inV (V.str (sz [z.cps.toList[k]])) [.str "", .str "\n", .str "\t"]) = false from ei]
    exact ⟨_, rfl, q _ (Same.new ht)⟩
theorem c_read_escape (D : Def K mg "read_escape" s_read_escape ["scanner"]) (T : Tp w K mg cs) (c_Scanner_position : CalM P w K mg base CX0 (Cs.C_Scanner cs) 1 "position" (sp_Scanner_position K cs)) (c_Scanner_skip : CalM P w K mg base CX0 (Cs.C_Scanner cs) 1 "skip" (sp_Scanner_skip K cs)) (c_check_in_string : Cal P w K mg base CX0 3 "check_in_string" (sp_check_in_string K cs)) (c_Scanner_ahead : CalM P w K mg base CX0 (Cs.C_Scanner cs) 1 "ahead" (sp_Scanner_ahead K cs)) (c_digit_of : Cal P w K mg base CX0 1 "digit_of" (sp_digit_of K cs)) : Cal P w K mg base CX0 4 "read_escape" (sp_read_escape K cs) := by
  refine D.ok sc_read_escape (fun vs H Q E h => ?_) (fun f cdv A outer s H vs Q E hr h => ?_)
  · obtain ⟨p, z, k, a, b, r, rfl, _⟩ := h; rfl
  · obtain ⟨p, z, k, a, b, r, rfl, hC, hz, hd, ha, hb, q⟩ := h
    refine ⟨_, (pss_cons (ps_asg (pe_mE0 c_Scanner_position hr (by decide) pass0 (pv 0)) (pg_tup (by rfl) (pgs_cons (pg_name (i := 1) sc_read_escape.nd rfl (by first | exact Or.inl rfl | exact Or.inr rfl)) (pgs_cons (pg_name (i := 2) sc_read_escape.nd rfl (by first | exact Or.inl rfl | exact Or.inr rfl)) pgs_nil))))
      (pss_cons (ps_expr (pe_mE c_Scanner_skip hr (by decide) pass0 (pv 0) (pa_cons pe_int pa_nil)))
      (pss_cons (ps_expr (pe_c c_check_in_string hr (by decide) (by rfl) (pa_cons (pv 0) pa_nil)))
      (pss_cons (ps_set (i := 3) sc_read_escape.nd rfl (by first | exact Or.inl rfl | exact Or.inr rfl) (pe_mE c_Scanner_ahead hr (by decide) pass0 (pv 0) (pa_cons pe_int pa_nil)))
      (pss_cons (ps_if (pt_cmpR (op_inT T.d_ESCAPES) (pv 3) (pe_glob (v := .ref cs.t_ESCAPES) (by rfl) T.g_ESCAPES rfl) (by first | rfl | exact nomark _)) (pss_cons (ps_expr (pe_mE c_Scanner_skip hr (by decide) pass0 (pv 0) (pa_cons pe_int pa_nil)))
      (pss_one ps_never)) pss_nil)
      (pss_cons (ps_set (i := 4) sc_read_escape.nd rfl (by first | exact Or.inl rfl | exact Or.inr rfl) (pe_c c_digit_of hr (by decide) (by rfl) (pa_cons (pv 3) pa_nil)))
      (pss_cons (ps_if (pt_cmpR op_isN (pv 4) pe_non (by first | rfl | exact nomark _)) (pss_one ps_never) pss_nil)
      (pss_cons (ps_expr (pe_mE c_Scanner_skip hr (by decide) pass0 (pv 0) (pa_cons pe_int pa_nil)))
      (pss_cons (ps_expr (pe_c c_check_in_string hr (by decide) (by rfl) (pa_cons (pv 0) pa_nil)))
      (pss_cons (ps_set (i := 5) sc_read_escape.nd rfl (by first | exact Or.inl rfl | exact Or.inr rfl) (pe_c c_digit_of hr (by decide) (by rfl) (pa_cons (pe_mE c_Scanner_ahead hr (by decide) pass0 (pv 0) (pa_cons pe_int pa_nil)) pa_nil)))
      (pss_cons (ps_if (pt_cmpR op_isN (pv 5) pe_non (by first | rfl | exact nomark _)) (pss_one ps_never) pss_nil)
      (pss_cons (ps_expr (pe_mE c_Scanner_skip hr (by decide) pass0 (pv 0) (pa_cons pe_int pa_nil)))
      (pss_one (ps_ret (pe_op op_add (pe_op op_mul (pv 4) pe_int) (pv 5)))))))))))))))), ?_⟩
    have hl : k + 3 ≤ z.length := by
      have := congrArg List.length hd
      rw [List.length_drop] at this
      simp only [List.length_cons] at this
      have e : z.length = z.cps.toList.length := rfl
      omega
    have d1 : z.cps.toList.drop (k + 1) = hx a :: hx b :: r := by rw [← List.drop_drop, hd]; rfl
    have d2 : z.cps.toList.drop (k + 1 + 1) = hx b :: r := by rw [← List.drop_drop, d1]; rfl
    obtain ⟨dx, hp⟩ := id hC
    refine ⟨_, rfl, p, dx, _, rfl, hp, no_Scanner_position, ?_⟩
    refine ⟨p, z, k, rfl, hC, fun t H1 s1 ht k1 => ?_⟩
    refine ⟨t, _, rfl, SqT.of k1, rfl, ?_⟩
    walk_at "go"
    have b1 : SameBut [p] H H1 := Same.but s1
    refine ⟨p, dx, _, rfl, s1 _ _ hp, no_Scanner_skip, ?_⟩
    refine ⟨p, z, k, 1, rfl, ⟨dx, s1 _ _ hp⟩, hz, by omega, fun H2 c2 b2 => ⟨_, rfl, ?_⟩⟩
    refine ⟨p, z, k + 1, rfl, c2, hz, by omega, fun H3 s3 => ?_⟩
    obtain ⟨dx2, hp2⟩ := c2
    have hp3 := s3 _ _ hp2
    walk_at "go"
    refine ⟨p, dx2, _, rfl, hp3, no_Scanner_ahead, ?_⟩
    refine ⟨p, z, k + 1, 1, rfl, ⟨dx2, hp3⟩, hz, ?_⟩
    rw [d1, show (hx a :: hx b :: r).take 1 = [hx a] from rfl]
    walk_at "go"
    rw [esc_no cs ha]
    walk_at "go"
    refine ⟨p, dx2, _, rfl, hp3, no_Scanner_skip, ?_⟩
    refine ⟨p, z, k + 1, 1, rfl, ⟨dx2, hp3⟩, hz, by omega, fun H4 c4 b4 => ⟨_, rfl, ?_⟩⟩
    refine ⟨p, z, k + 1 + 1, rfl, c4, hz, by omega, fun H5 s5 => ?_⟩
    obtain ⟨dx4, hp4⟩ := c4
    have hp5 := s5 _ _ hp4
    refine ⟨_, rfl, p, dx4, _, rfl, hp5, no_Scanner_ahead, ?_⟩
    refine ⟨p, z, k + 1 + 1, 1, rfl, ⟨dx4, hp5⟩, hz, ?_⟩
    rw [d2, show (hx b :: r).take 1 = [hx b] from rfl]
    refine ⟨b, rfl, hb, ?_⟩
    walk_at "go"
    refine ⟨p, dx4, _, rfl, hp5, no_Scanner_skip, ?_⟩
    refine ⟨p, z, k + 1 + 1, 1, rfl, ⟨dx4, hp5⟩, hz, by omega, fun H6 c6 b6 => ?_⟩
    walk_at "go"
    exact q _ c6 (b1.trans (b2.trans ((Same.but s3).trans (b4.trans ((Same.but s5).trans b6)))))
theorem c_read_string (D : Def K mg "read_string" s_read_string ["scanner"]) (T : Tp w K mg cs) (c_Scanner_skip : CalM P w K mg base CX0 (Cs.C_Scanner cs) 1 "skip" (sp_Scanner_skip K cs)) (c_check_in_string : Cal P w K mg base CX0 3 "check_in_string" (sp_check_in_string K cs)) (c_Scanner_ahead : CalM P w K mg base CX0 (Cs.C_Scanner cs) 1 "ahead" (sp_Scanner_ahead K cs)) (c_read_escape : Cal P w K mg base CX0 4 "read_escape" (sp_read_escape K cs)) : Cal P w K mg base CX0 5 "read_string" (sp_read_string K cs) := by
  refine D.ok sc_read_string (fun vs H Q E h => ?_) (fun f cdv A outer s H vs Q E hr h => ?_)
  · obtain ⟨p, z, bs, rfl, _⟩ := h; rfl
  · obtain ⟨p, z, bs, rfl, hC, hz, hd, hB, hl, q⟩ := h
    refine ⟨_, (pss_cons (ps_set (i := 1) sc_read_string.nd rfl (by first | exact Or.inl rfl | exact Or.inr rfl) (pe_lst pa_nil))
      (pss_cons (ps_expr (pe_mE c_Scanner_skip hr (by decide) pass0 (pv 0) (pa_cons pe_int pa_nil)))
      (pss_cons (ps_expr (pe_c c_check_in_string hr (by decide) (by rfl) (pa_cons (pv 0) pa_nil)))
      (pss_cons (ps_while PassesOwn.never (pt_cmpR op_ne (pe_mE c_Scanner_ahead hr (by decide) pass0 (pv 0) (pa_cons pe_int pa_nil)) pe_str (by first | rfl | exact nomark _)) (pss_cons (ps_if (pt_cmpR op_eq (pe_mE c_Scanner_ahead hr (by decide) pass0 (pv 0) (pa_cons pe_int pa_nil)) pe_str (by first | rfl | exact nomark _)) (pss_one (ps_expr (pe_bm PySem.F.plainAttrs_list PySem.F.slot_list_append PySem.F.type_list_append mt_append (pv 1) (pa_cons (pe_c c_read_escape hr (by decide) (by rfl) (pa_cons (pv 0) pa_nil)) pa_nil)))) (pss_cons (ps_expr (pe_bm PySem.F.plainAttrs_list PySem.F.slot_list_append PySem.F.type_list_append mt_append (pv 1) (pa_cons (pe_callB call_ord (by rfl) T.m_ord (by decide +kernel) (pa_cons (pe_mE c_Scanner_ahead hr (by decide) pass0 (pv 0) (pa_cons pe_int pa_nil)) pa_nil)) pa_nil)))
      (pss_one (ps_expr (pe_mE c_Scanner_skip hr (by decide) pass0 (pv 0) (pa_cons pe_int pa_nil))))))
      (pss_one (ps_expr (pe_c c_check_in_string hr (by decide) (by rfl) (pa_cons (pv 0) pa_nil))))))
      (pss_cons (ps_expr (pe_mE c_Scanner_skip hr (by decide) pass0 (pv 0) (pa_cons pe_int pa_nil)))
      (pss_one (ps_ret (pe_callTy call_tuple_of (by rfl) T.m_tuple (by decide +kernel) (pa_cons (pv 1) pa_nil))))))))), ?_⟩
    have hzl : z.length = (tok bs).length := by show z.cps.toList.length = _; rw [hd]
    have hsk : ∀ (done r : List Nat), done ++ r = bs → z.cps.toList.drop (1 + (inner done).length) = inner r ++ [34] := by
      intro done r e
      rw [hd, ← e, show tok (done ++ r) = (34 :: inner done) ++ (inner r ++ [34]) by unfold tok inner; rw [List.flatMap_append]; simp]
      rw [show 1 + (inner done).length = (34 :: inner done).length by rw [List.length_cons]; omega, List.drop_left]
    walk_at "go"
    intro t0 ht0
    generalize x0 : upd H t0 _ = H0
    obtain ⟨s0, k0⟩ : Same H H0 ∧ H0 t0 = some (.lst (([] : List Nat).map iv)) := by subst x0; exact ⟨Same.new ht0, upd_same⟩
    obtain ⟨dx, hp⟩ := id hC
    walk_at "go"
    refine ⟨p, dx, _, rfl, s0 _ _ hp, no_Scanner_skip, ?_⟩
    refine ⟨p, z, 0, 1, rfl, ⟨dx, s0 _ _ hp⟩, hz, by rw [hzl, tok_len]; omega, fun H1 c1 b1 => ⟨_, rfl, ?_⟩⟩
    refine ⟨p, z, 0 + 1, rfl, c1, hz, by rw [hzl, tok_len]; omega, fun H2 s2 => ?_⟩
    walk_at "go"
    have npt : p ≠ t0 := ne_of_none hp ht0
    have kt1 : H1 t0 = some (.lst (([] : List Nat).map iv)) := b1 _ _ (fun z => npt (List.mem_singleton.mp z).symm) k0
    refine while_ev (fun σ H3 => ∃ (done r : List Nat), done ++ r = bs ∧ SC cs H3 p z (1 + (inner done).length) ∧ SameBut [p] H H3 ∧ H3 t0 = some (.lst (done.map iv)) ∧ σ = [some (.ref p), some (.ref t0)])
      (fun σ H3 => match H3 t0 with | some (.lst xs) => bs.length - xs.length | _ => 0) ⟨[], bs, rfl, ?_, ?_, s2 _ _ kt1, rfl⟩ ?_
    · obtain ⟨dx1, hp1⟩ := c1
      exact ⟨dx1, s2 _ _ hp1⟩
    · exact (Same.but s0).trans (b1.trans (Same.but s2))
    rintro _ H3 ⟨done, r, e, ⟨dx3, hp3⟩, b3, k3, rfl⟩
    have hdr := hsk done r e
    have hcp : SC cs H3 p z (1 + (inner done).length) := ⟨dx3, hp3⟩
    have hle : 1 + (inner done).length + (inner r ++ [34]).length = z.length := by
      rw [hzl, ← e, tok_len, show inner (done ++ r) = inner done ++ inner r by unfold inner; rw [List.flatMap_append], List.length_append, List.length_append, List.length_singleton]; omega
    cases r with
    | nil =>
      have eq1 : (sz [34] : Str) = "\"" := (lit_sz (by decide +kernel)).symm
      refine ⟨false, fun Q2 q2 => ?_, fun z => (Bool.noConfusion z), fun _ => ?_⟩
      · refine ⟨_, rfl, p, dx3, _, rfl, hp3, no_Scanner_ahead, ?_⟩
        refine ⟨p, z, _, 1, rfl, hcp, hz, ?_⟩
        rw [hdr, show List.take 1 (inner [] ++ [34]) = [34] from rfl, eq1]
        walk_at "go"
        exact q2
      · have ed : done = bs := by rw [← e, List.append_nil]
        subst ed
        refine ⟨_, rfl, p, dx3, _, rfl, hp3, no_Scanner_skip, ?_⟩
        refine ⟨p, z, _, 1, rfl, hcp, hz, by rw [← hle]; show _ + 1 ≤ _ + (0 + 1); omega, fun H4 c4 b4 => ?_⟩
        have k4 := b4 _ _ (fun z => npt (List.mem_singleton.mp z).symm) k3
        walk_at "go"
        refine ⟨t0, _, rfl, .inl ⟨SqL.of k4, fun t ht => ?_⟩⟩
        have npt2 : t ≠ p := fun z => by
          obtain ⟨dx4, hp4⟩ := c4
          rw [z, hp4] at ht; cases ht
        refine q t _ ?_ ((b3.trans b4).trans (Same.but (Same.new ht))) upd_same
        obtain ⟨dx4, hp4⟩ := c4
        refine ⟨dx4, ?_⟩
        rw [upd_ne npt2.symm, hp4, tok_len]
        rw [show ((1 + (inner done).length + 1 : Nat) : Int) = (((inner done).length + 2 : Nat) : Int) by omega]
    | cons b r =>
      have hb8 : b ≤ 255 := hB b (by rw [← e]; simp)
      have hdone : (done ++ [b]) ++ r = bs := by rw [← e]; simp
      have hin : inner (done ++ [b]) = inner done ++ esc b := by unfold inner; rw [List.flatMap_append]; simp
      have hlen : done.length < bs.length := by rw [← e, List.length_append, List.length_cons]; omega
      have hmu : ∀ H4 : Hp, H4 t0 = some (.lst ((done ++ [b]).map iv)) → (match H4 t0 with | some (.lst xs) => bs.length - xs.length | _ => 0) < (match H3 t0 with | some (.lst xs) => bs.length - xs.length | _ => 0) := by
        intro H4 k4
        rw [k4, k3]
        show bs.length - ((done ++ [b]).map iv).length < bs.length - (done.map iv).length
        rw [List.length_map, List.length_map, List.length_append, List.length_singleton]; omega
      by_cases hpl : plain b = true
      · have he : esc b = [b] := if_pos hpl
        have hdr2 : z.cps.toList.drop (1 + (inner done).length) = b :: (inner r ++ [34]) := by rw [hdr]; show esc b ++ inner r ++ [34] = _; rw [he]; rfl
        have hne : b ≠ 34 ∧ b ≠ 92 := by
          unfold plain at hpl
          simp at hpl
          omega
        have hn34 : ¬ sz [b] = "\"" := fun y => by
          have := congrArg (fun w : Str => w.cps.toList) y
          rw [show ("\"" : Str).cps.toList = [34] by decide +kernel] at this
          exact hne.1 (List.cons.inj this).1
        have hn92 : ¬ sz [b] = "\\" := fun y => by
          have := congrArg (fun w : Str => w.cps.toList) y
          rw [show ("\\" : Str).cps.toList = [92] by decide +kernel] at this
          exact hne.2 (List.cons.inj this).1
        have hle2 : 1 + (inner done).length + 1 < z.length := by
          rw [← hle]
          show _ < _ + (esc b ++ inner r ++ [34]).length
          rw [he, List.length_append, List.length_append, List.length_singleton, List.length_singleton]; omega
        have tk : (b :: (inner r ++ [34])).take 1 = [b] := rfl
        refine ⟨true, fun Q2 q2 => ?_, fun _ => ?_, fun z => (Bool.noConfusion z)⟩
        · refine ⟨_, rfl, p, dx3, _, rfl, hp3, no_Scanner_ahead, ?_⟩
          refine ⟨p, z, _, 1, rfl, hcp, hz, ?_⟩
          rw [hdr2, tk]
          walk_at "go"
          rw [show decide (V.str (sz [b]) = V.str "\"") = false from decide_eq_false (fun y => hn34 (V.str.inj y))]
          exact q2
        · refine ⟨_, rfl, p, dx3, _, rfl, hp3, no_Scanner_ahead, ?_⟩
          refine ⟨p, z, _, 1, rfl, hcp, hz, ?_⟩
          rw [hdr2, tk]
          walk_at "go"
          refine ifSN hn92 ?_
          refine ⟨_, rfl, .inl ⟨rfl, _, SqL.of k3⟩, ?_⟩
          refine ⟨_, rfl, p, dx3, _, rfl, hp3, no_Scanner_ahead, ?_⟩
          refine ⟨p, z, _, 1, rfl, hcp, hz, ?_⟩
          rw [hdr2, tk]
          refine ⟨_, rfl, rfl, ?_⟩
          refine ⟨_, _, _, rfl, rfl, k3, (by rw [List.length_map]; exact small64' (by omega)), ?_⟩
          generalize x4 : upd H3 t0 _ = H4
          have b4 : SameBut [t0] H3 H4 := by subst x4; exact (SameBut.refl _).upd (List.mem_singleton.mpr rfl)
          have k4 : H4 t0 = some (.lst ((done ++ [b]).map iv)) := by subst x4; rw [upd_same, List.map_append]; rfl
          have hp4 := b4 _ _ (fun z => npt (List.mem_singleton.mp z)) hp3
          walk_at "go"
          refine ⟨p, dx3, _, rfl, hp4, no_Scanner_skip, ?_⟩
          refine ⟨p, z, _, 1, rfl, ⟨dx3, hp4⟩, hz, by omega, fun H5 c5 b5 => ⟨_, rfl, ?_⟩⟩
          refine ⟨p, z, 1 + (inner done).length + 1, rfl, c5, hz, hle2, fun H6 s6 => ?_⟩
          have k5 := b5 _ _ (fun z => npt (List.mem_singleton.mp z).symm) k4
          have k6 := s6 _ _ k5
          refine ⟨⟨done ++ [b], r, hdone, ?_, ?_, k6, rfl⟩, hmu _ k6⟩
          · obtain ⟨dx5, hp5⟩ := c5
            refine ⟨dx5, ?_⟩
            rw [s6 _ _ hp5, hin, he, List.length_append]
            rfl
          · exact (b3.new b4 ht0).trans (b5.trans (Same.but s6))
      · have he : esc b = [92, hx (b / 16), hx (b % 16)] := if_neg hpl
        have hdr2 : z.cps.toList.drop (1 + (inner done).length) = 92 :: hx (b / 16) :: hx (b % 16) :: (inner r ++ [34]) := by rw [hdr]; show esc b ++ inner r ++ [34] = _; rw [he]; rfl
        have hd16 : b / 16 < 16 ∧ b % 16 < 16 := ⟨by omega, Nat.mod_lt _ (by decide)⟩
        have hn34 : ¬ sz [92] = "\"" := by decide +kernel
        have e92 : sz [92] = "\\" := (lit_sz (by decide +kernel)).symm
        have hle2 : 1 + (inner done).length + 3 < z.length := by
          rw [← hle]
          show _ < _ + (esc b ++ inner r ++ [34]).length
          rw [he, List.length_append, List.length_append, List.length_singleton]
          show _ < _ + (3 + _ + 1)
          omega
        have tk : (92 :: hx (b / 16) :: hx (b % 16) :: (inner r ++ [34])).take 1 = [92] := rfl
        refine ⟨true, fun Q2 q2 => ?_, fun _ => ?_, fun z => (Bool.noConfusion z)⟩
        · refine ⟨_, rfl, p, dx3, _, rfl, hp3, no_Scanner_ahead, ?_⟩
          refine ⟨p, z, _, 1, rfl, hcp, hz, ?_⟩
          rw [hdr2, tk]
          walk_at "go"
          rw [show decide (V.str (sz [92]) = V.str "\"") = false from decide_eq_false (fun y => hn34 (V.str.inj y))]
          exact q2
        · refine ⟨_, rfl, p, dx3, _, rfl, hp3, no_Scanner_ahead, ?_⟩
          refine ⟨p, z, _, 1, rfl, hcp, hz, ?_⟩
          rw [hdr2, tk]
          walk_at "go"
          refine ⟨.inl ⟨rfl, _, SqL.of k3⟩, ?_⟩
          refine ⟨_, rfl, p, z, _, _, _, _, rfl, hcp, hz, hdr2, hd16.1, hd16.2, fun H4 c4 b4 => ?_⟩
          have k4 := b4 _ _ (fun z => npt (List.mem_singleton.mp z).symm) k3
          refine ⟨_, _, _, rfl, rfl, k4, (by rw [List.length_map]; exact small64' (by omega)), ?_⟩
          generalize x5 : upd H4 t0 _ = H5
          have b5 : SameBut [t0] H4 H5 := by subst x5; exact (SameBut.refl _).upd (List.mem_singleton.mpr rfl)
          have ebb : ((b / 16 : Nat) : Int) * 16 + ((b % 16 : Nat) : Int) = (b : Int) := by omega
          have k5 : H5 t0 = some (.lst ((done ++ [b]).map iv)) := by subst x5; rw [upd_same, List.map_append, ebb]; rfl
          have c5 : SC cs H5 p z (1 + (inner done).length + 3) := by
            obtain ⟨dx4, hp4⟩ := c4
            exact ⟨dx4, b5 _ _ (fun z => npt (List.mem_singleton.mp z)) hp4⟩
          refine ⟨_, rfl, p, z, 1 + (inner done).length + 3, rfl, c5, hz, hle2, fun H6 s6 => ?_⟩
          have k6 := s6 _ _ k5
          refine ⟨⟨done ++ [b], r, hdone, ?_, ?_, k6, rfl⟩, hmu _ k6⟩
          · obtain ⟨dx5, hp5⟩ := c5
            refine ⟨dx5, ?_⟩
            rw [s6 _ _ hp5, hin, he, List.length_append]
            rfl
          · exact ((b3.trans b4).new b5 ht0).trans (Same.but s6)
theorem c_skip_blanks (D : Def K mg "skip_blanks" s_skip_blanks ["scanner"]) (T : Tp w K mg cs) (c_Scanner_ahead : CalM P w K mg base CX0 (Cs.C_Scanner cs) 1 "ahead" (sp_Scanner_ahead K cs)) (c_Scanner_skip : CalM P w K mg base CX0 (Cs.C_Scanner cs) 1 "skip" (sp_Scanner_skip K cs)) : Cal P w K mg base CX0 2 "skip_blanks" (sp_skip_blanks K cs) := by
  refine D.ok sc_skip_blanks (fun vs H Q E h => ?_) (fun f cdv A outer s H vs Q E hr h => ?_)
  · obtain ⟨p, z, k, rfl, _⟩ := h; rfl
  · obtain ⟨p, z, k, rfl, ⟨dx, hp⟩, hz, hd, q⟩ := h
    refine ⟨_, (pss_one (ps_while PassesOwn.never (pt_val pe_bl) (pss_cons (ps_set (i := 1) sc_skip_blanks.nd rfl (by first | exact Or.inl rfl | exact Or.inr rfl) (pe_mE c_Scanner_ahead hr (by decide) pass0 (pv 0) (pa_cons pe_int pa_nil)))
      (pss_one (ps_if (pt_cmpR op_eq (pv 1) pe_str (by first | rfl | exact nomark _)) (pss_one ps_never) (pss_one (ps_if (pt_cmpR op_eq (pv 1) pe_str (by first | rfl | exact nomark _)) (pss_one ps_never) (pss_one (ps_if (PW.pt (pw_and (pt_cmpR op_ne (pv 1) pe_str (by first | rfl | exact nomark _)) (pw_and1 (pt_cmpR op_in_str (pe_ix ix_str (pv 1) pe_int (fun _ _ => rfl)) (pe_gstr (by rfl) T.w_BLANKS) (by first | rfl | exact nomark _))))) (pss_one (ps_expr (pe_mE c_Scanner_skip hr (by decide) pass0 (pv 0) (pa_cons pe_int pa_nil)))) (pss_one ps_retN)))))))))), ?_⟩
    refine while_ev (fun σ H3 => H3 = H ∧ ∃ o, σ = [some (.ref p), o]) (fun _ _ => 0) ⟨rfl, _, rfl⟩ ?_
    rintro _ _ ⟨rfl, o, rfl⟩
    refine ⟨true, fun Q2 q2 => ⟨_, rfl, q2⟩, fun _ => ?_, fun z => (Bool.noConfusion z)⟩
    refine ⟨_, rfl, p, dx, _, rfl, hp, no_Scanner_ahead, ?_⟩
    refine ⟨p, z, k, 2, rfl, ⟨dx, hp⟩, hz, ?_⟩
    rcases hd with hd | ⟨r, hd⟩
    · rw [hd, show List.take 2 ([] : List Nat) = [] from rfl, show sz [] = "" from (lit_sz (by decide +kernel)).symm]
      walk_at "go"
      exact q
    · have n1 : ¬ sz ((34 :: r).take 2) = ";;" := fun y => by
        have := congrArg (fun w : Str => w.cps.toList) y
        rw [show (";;" : Str).cps.toList = [59, 59] by decide +kernel] at this
        exact absurd (List.cons.inj this).1 (by decide)
      have n2 : ¬ sz ((34 :: r).take 2) = "(;" := fun y => by
        have := congrArg (fun w : Str => w.cps.toList) y
        rw [show ("(;" : Str).cps.toList = [40, 59] by decide +kernel] at this
        exact absurd (List.cons.inj this).1 (by decide)
      have n3 : ¬ sz ((34 :: r).take 2) = "" := fun y => by
        have := congrArg (fun w : Str => w.cps.toList) y
        rw [show ("" : Str).cps.toList = [] by decide +kernel] at this
        cases this
      have hat : atI (sz ((34 :: r).take 2)).cps.toList (0 : Int) = some 34 := atI_nat (j := 0) rfl
      have hln : (sz ((34 :: r).take 2)).length ≤ sizeLine := small64 (by rw [sz_len, List.length_take]; omega)
      rw [hd]
      generalize sz ((34 :: r).take 2) = m at n1 n2 n3 hat hln ⊢
      walk_at "go"
      refine ifSN n1 ?_
      walk_at "go"
      refine ifSN n2 ?_
      walk_at "go"
      rw [show decide (V.str m = V.str "") = false from decide_eq_false (fun y => n3 (V.str.inj y))]
      refine iteT ?_
      refine ⟨_, rfl, _, _, 34, rfl, rfl, hln, hat, ?_⟩
      refine ⟨_, _, rfl, rfl, ?_⟩
      rw [show (!(Builtin.Str.occurrences " \t\n" ⟨#[34]⟩ 0 (" \t\n" : Str).length 1).isEmpty) = false by decide +kernel]
      walk_at "go"
      exact q
theorem c_read_token (D : Def K mg "read_token" s_read_token ["scanner"]) (T : Tp w K mg cs) (c_Scanner_ahead : CalM P w K mg base CX0 (Cs.C_Scanner cs) 1 "ahead" (sp_Scanner_ahead K cs)) (c_Scanner_position : CalM P w K mg base CX0 (Cs.C_Scanner cs) 1 "position" (sp_Scanner_position K cs)) (c_Scanner_skip : CalM P w K mg base CX0 (Cs.C_Scanner cs) 1 "skip" (sp_Scanner_skip K cs)) (c_read_string : Cal P w K mg base CX0 5 "read_string" (sp_read_string K cs)) : Cal P w K mg base CX0 6 "read_token" (sp_read_token K cs) := by
  refine D.ok sc_read_token (fun vs H Q E h => ?_) (fun f cdv A outer s H vs Q E hr h => ?_)
  · obtain ⟨p, z, bs, k, rfl, _⟩ := h; rfl
  · obtain ⟨p, z, bs, k, rfl, hC, hz, hd, hB, hl, hq⟩ := h
    refine ⟨_, (pss_cons (ps_set (i := 1) sc_read_token.nd rfl (by first | exact Or.inl rfl | exact Or.inr rfl) (pe_mE c_Scanner_ahead hr (by decide) pass0 (pv 0) (pa_cons pe_int pa_nil)))
      (pss_cons (ps_if (pt_cmpR op_eq (pv 1) pe_str (by first | rfl | exact nomark _)) (pss_one (ps_ret (pe_tup (pa_cons pe_str (pa_cons pe_str pa_nil))))) pss_nil)
      (pss_cons (ps_if (pt_cmpR op_in_str (pv 1) pe_str (by first | rfl | exact nomark _)) (pss_cons (ps_expr (pe_mE c_Scanner_skip hr (by decide) pass0 (pv 0) (pa_cons pe_int pa_nil)))
      (pss_one (ps_ret (pe_tup (pa_cons (pv 1) (pa_cons pe_str pa_nil)))))) pss_nil)
      (pss_cons (ps_if (pt_cmpR op_eq (pv 1) pe_str (by first | rfl | exact nomark _)) (pss_one (ps_ret (pe_tup (pa_cons pe_str (pa_cons (pe_c c_read_string hr (by decide) (by rfl) (pa_cons (pv 0) pa_nil)) pa_nil))))) pss_nil)
      (pss_cons ps_never
      (pss_cons ps_never
      (pss_one ps_never))))))), ?_⟩
    obtain ⟨dx, hp⟩ := id hC
    refine ⟨_, rfl, p, dx, _, rfl, hp, no_Scanner_ahead, ?_⟩
    refine ⟨p, z, k, 1, rfl, hC, hz, ?_⟩
    rw [hd]
    rcases hq with ⟨rfl, q⟩ | ⟨rfl, q⟩
    · rw [show List.take 1 (List.drop 0 (tok bs)) = [34] from rfl, show sz [34] = "\"" from (lit_sz (by decide +kernel)).symm]
      walk_at "go"
      rw [show (!(Builtin.Str.occurrences "()" "\"" 0 ("()" : Str).length 1).isEmpty) = false by decide +kernel]
      walk_at "go"
      refine ⟨p, z, bs, rfl, hC, hz, hd, hB, hl, fun d H1 c1 b1 k1 => ?_⟩
      walk_at "go"
      intro t ht
      have ndt : ∀ y o, H1 y = some o → upd H1 t (.tup [.str "string", .ref d]) y = some o := fun y o e => (Same.new ht) y o e
      obtain ⟨dx1, hp1⟩ := c1
      exact q t d _ ⟨dx1, ndt _ _ hp1⟩ (b1.trans (Same.but (Same.new ht))) (ndt _ _ k1) upd_same
    · rw [List.drop_length, show List.take 1 ([] : List Nat) = [] from rfl, show sz [] = "" from (lit_sz (by decide +kernel)).symm]
      walk_at "go"
      intro t ht
      exact q t _ (Same.new ht) upd_same
theorem c_tokens_of (D : Def K mg "tokens_of" s_tokens_of ["text"]) (T : Tp w K mg cs) (c_Scanner___init__ : CalI P w K mg base CX0 (Cs.C_Scanner cs) 1 (sp_Scanner___init__ K cs)) (c_skip_blanks : Cal P w K mg base CX0 2 "skip_blanks" (sp_skip_blanks K cs)) (c_Scanner_position : CalM P w K mg base CX0 (Cs.C_Scanner cs) 1 "position" (sp_Scanner_position K cs)) (c_read_token : Cal P w K mg base CX0 6 "read_token" (sp_read_token K cs)) : Cal P w K mg base CX0 7 "tokens_of" (sp_tokens_of K cs) := by
  refine D.ok sc_tokens_of (fun vs H Q E h => ?_) (fun f cdv A outer s H vs Q E hr h => ?_)
  · obtain ⟨bs, rfl, _⟩ := h; rfl
  · obtain ⟨bs, rfl, hB, hl, q⟩ := h
    refine ⟨_, (pss_cons (ps_set (i := 1) sc_tokens_of.nd rfl (by first | exact Or.inl rfl | exact Or.inr rfl) (pe_nw c_Scanner___init__ hr (by decide) (by rfl) T.g_Scanner (pa_cons (pv 0) pa_nil)))
      (pss_cons (ps_set (i := 2) sc_tokens_of.nd rfl (by first | exact Or.inl rfl | exact Or.inr rfl) (pe_lst pa_nil))
      (pss_cons (ps_set (i := 3) sc_tokens_of.nd rfl (by first | exact Or.inl rfl | exact Or.inr rfl) pe_str)
      (pss_cons (ps_while PassesOwn.never (pt_cmpR op_ne (pv 3) pe_str (by first | rfl | exact nomark _)) (pss_cons (ps_expr (pe_c c_skip_blanks hr (by decide) (by rfl) (pa_cons (pv 1) pa_nil)))
      (pss_cons (ps_set (i := 4) sc_tokens_of.nd rfl (by first | exact Or.inl rfl | exact Or.inr rfl) (pe_mE0 c_Scanner_position hr (by decide) pass0 (pv 1)))
      (pss_cons (ps_asg (pe_c c_read_token hr (by decide) (by rfl) (pa_cons (pv 1) pa_nil)) (pg_tup (by rfl) (pgs_cons (pg_name (i := 3) sc_tokens_of.nd rfl (by first | exact Or.inl rfl | exact Or.inr rfl)) (pgs_cons (pg_name (i := 5) sc_tokens_of.nd rfl (by first | exact Or.inl rfl | exact Or.inr rfl)) pgs_nil))))
      (pss_one (ps_expr (pe_bm PySem.F.plainAttrs_list PySem.F.slot_list_append PySem.F.type_list_append mt_append (pv 2) (pa_cons (pe_op op_catT (pe_tup (pa_cons (pv 3) (pa_cons (pv 5) pa_nil))) (pv 4)) pa_nil))))))))
      (pss_one (ps_ret (pv 2))))))), ?_⟩
    have hz : One (sz (tok bs)) := one_tok hB hl
    walk_at "go"
    intro x dx nx ndx nex
    refine ⟨x, dx, _, rfl, upd_same, fun H1 c1 b1 => ⟨rfl, ?_⟩⟩
    have s1 := made_same nx ndx b1
    walk_at "go"
    intro t0 ht0
    generalize x2 : upd H1 t0 _ = H2
    obtain ⟨s2, k2⟩ : Same H1 H2 ∧ H2 t0 = some (.lst []) := by subst x2; exact ⟨Same.new ht0, upd_same⟩
    have ht00 := none_of s1 ht0
    have nxt : x ≠ t0 := fun z => by
      obtain ⟨dx1, hp1⟩ := c1
      rw [z, ht0] at hp1; cases hp1
    walk_at "go"
    refine while_ev (fun σ H3 => Same H H3 ∧ ∃ o4 o5,
        (SC cs H3 x (sz (tok bs)) 0 ∧ H3 t0 = some (.lst []) ∧ σ = [some (.str (sz (tok bs))), some (.ref x), some (.ref t0), some (.str ""), o4, o5]) ∨
        (∃ t1 d, SC cs H3 x (sz (tok bs)) (tok bs).length ∧ H3 t0 = some (.lst [.ref t1]) ∧ H3 t1 = some (.tup [.str "string", .ref d, .int 1, .int 1]) ∧ H3 d = some (.tup (bs.map iv)) ∧ σ = [some (.str (sz (tok bs))), some (.ref x), some (.ref t0), some (.str "string"), o4, o5]) ∨
        (∃ t1 t2 d, H3 t0 = some (.lst [.ref t1, .ref t2]) ∧ H3 t1 = some (.tup [.str "string", .ref d, .int 1, .int 1]) ∧ H3 d = some (.tup (bs.map iv)) ∧ H3 t2 = some (.tup [.str "end", .str "", .int 1, .int (((tok bs).length : Int) + 1)]) ∧ σ = [some (.str (sz (tok bs))), some (.ref x), some (.ref t0), some (.str "end"), o4, o5]))
      (fun σ H3 => match H3 t0 with | some (.lst xs) => 2 - xs.length | _ => 0) ⟨s1.trans s2, _, _, .inl ⟨?_, k2, rfl⟩⟩ ?_
    · obtain ⟨dx1, hp1⟩ := c1
      exact ⟨dx1, s2 _ _ hp1⟩
    rintro _ H3 ⟨s3, o4, o5, ⟨c3, k3, rfl⟩ | ⟨t1, d, c3, k3, kt1, kd, rfl⟩ | ⟨t1, t2, d, k3, kt1, kd, kt2, rfl⟩⟩
    · refine ⟨true, fun Q2 q2 => by walk_at "go"; exact q2, fun _ => ?_, fun z => (Bool.noConfusion z)⟩
      obtain ⟨dx3, hp3⟩ := id c3
      refine ⟨_, rfl, x, _, 0, rfl, c3, hz, .inr ⟨_, rfl⟩, ?_⟩
      refine ⟨_, rfl, x, dx3, _, rfl, hp3, no_Scanner_position, ?_⟩
      refine ⟨x, _, 0, rfl, c3, fun tp H4 s4 htp k4 => ?_⟩
      have c4 : SC cs H4 x (sz (tok bs)) 0 := ⟨dx3, s4 _ _ hp3⟩
      refine ⟨_, rfl, x, _, bs, 0, rfl, c4, hz, rfl, hB, hl, .inl ⟨rfl, fun tt d H5 c5 b5 kd5 kt5 => ?_⟩⟩
      refine ⟨tt, _, rfl, SqT.of kt5, rfl, ?_⟩
      walk_at "go"
      have hx4 := s4 _ _ hp3
      have n0 : t0 ∉ [x] := fun z => nxt (List.mem_singleton.mp z).symm
      have np : tp ∉ [x] := fun z => by rw [List.mem_singleton.mp z, hp3] at htp; cases htp
      have k5 := b5 _ _ n0 (s4 _ _ k3)
      have kp5 := b5 _ _ np k4
      refine ⟨.inl ⟨rfl, _, SqL.of k5⟩, ?_⟩
      walk_at "go"
      intro u hu
      generalize x6 : upd H5 u _ = H6
      obtain ⟨s6, k6⟩ : Same H5 H6 ∧ H6 u = some (.tup [.str "string", .ref d]) := by subst x6; exact ⟨Same.new hu, upd_same⟩
      refine ⟨_, rfl, u, tp, _, _, rfl, rfl, SqT.of k6, SqT.of (s6 _ _ kp5), (fun z => by cases z), small64 (by show 2 + 2 ≤ 1000000; decide), (fun z => by cases z), fun _ v hv => ?_⟩
      generalize x7 : upd H6 v _ = H7
      obtain ⟨s7, k7⟩ : Same H6 H7 ∧ H7 v = some (.tup [.str "string", .ref d, .int 1, .int 1]) := by subst x7; exact ⟨Same.new hv, upd_same⟩
      have s67 := s6.trans s7
      refine ⟨_, _, _, rfl, rfl, s67 _ _ k5, small64' (by first | (show 0 ≤ 1000000; decide) | (show 1 ≤ 1000000; decide)), ?_⟩
      obtain ⟨dx5, hp5⟩ := c5
      have nvt : v ≠ t0 := fun z => by rw [z, s6 _ _ k5] at hv; cases hv
      have ndt : d ≠ t0 := fun z => by rw [z, k5] at kd5; cases kd5
      have b8 : SameBut [x, t0] H3 (upd H7 t0 (.lst ([] ++ [.ref v]))) := (((Same.but s4).trans (b5.mono (fun a h => by rw [List.mem_singleton.mp h]; simp))).trans (Same.but s67)).upd (by simp)
      refine ⟨⟨Same.of_but s3 b8 (fun a h => by rcases List.mem_cons.mp h with rfl | h; exact nx; rw [List.mem_singleton.mp h]; exact ht00), _, _, .inr (.inl ⟨v, d, ⟨dx5, by rw [upd_ne nxt]; exact s67 _ _ hp5⟩, upd_same, by rw [upd_ne nvt]; exact k7, by rw [upd_ne ndt]; exact s67 _ _ kd5, rfl⟩)⟩, ?_⟩
      rw [upd_same, k3]
      first | (show 2 - 1 < 2 - 0; decide) | (show 2 - 2 < 2 - 1; decide)
    · refine ⟨true, fun Q2 q2 => by walk_at "go"; exact q2, fun _ => ?_, fun z => (Bool.noConfusion z)⟩
      obtain ⟨dx3, hp3⟩ := id c3
      have hdrop : (sz (tok bs)).cps.toList.drop (tok bs).length = [] := List.drop_length
      refine ⟨_, rfl, x, _, (tok bs).length, rfl, c3, hz, .inl hdrop, ?_⟩
      refine ⟨_, rfl, x, dx3, _, rfl, hp3, no_Scanner_position, ?_⟩
      refine ⟨x, _, (tok bs).length, rfl, c3, fun tp H4 s4 htp k4 => ?_⟩
      have c4 : SC cs H4 x (sz (tok bs)) (tok bs).length := ⟨dx3, s4 _ _ hp3⟩
      refine ⟨_, rfl, x, _, bs, (tok bs).length, rfl, c4, hz, rfl, hB, hl, .inr ⟨rfl, fun tt H5 s5 kt5 => ?_⟩⟩
      refine ⟨tt, _, rfl, SqT.of kt5, rfl, ?_⟩
      walk_at "go"
      have s45 := s4.trans s5
      have k5 := s45 _ _ k3
      have kp5 := s5 _ _ k4
      refine ⟨.inl ⟨rfl, _, SqL.of k5⟩, ?_⟩
      walk_at "go"
      intro u hu
      generalize x6 : upd H5 u _ = H6
      obtain ⟨s6, k6⟩ : Same H5 H6 ∧ H6 u = some (.tup [.str "end", .str ""]) := by subst x6; exact ⟨Same.new hu, upd_same⟩
      refine ⟨_, rfl, u, tp, _, _, rfl, rfl, SqT.of k6, SqT.of (s6 _ _ kp5), (fun z => by cases z), small64 (by show 2 + 2 ≤ 1000000; decide), (fun z => by cases z), fun _ v hv => ?_⟩
      generalize x7 : upd H6 v _ = H7
      obtain ⟨s7, k7⟩ : Same H6 H7 ∧ H7 v = some (.tup [.str "end", .str "", .int 1, .int (((tok bs).length : Int) + 1)]) := by subst x7; exact ⟨Same.new hv, upd_same⟩
      have s67 := s6.trans s7
      have s37 := s45.trans s67
      refine ⟨_, _, _, rfl, rfl, s67 _ _ k5, small64' (by first | (show 0 ≤ 1000000; decide) | (show 1 ≤ 1000000; decide)), ?_⟩
      have nvt : v ≠ t0 := fun z => by rw [z, s6 _ _ k5] at hv; cases hv
      have ndt : d ≠ t0 := fun z => by rw [z, k3] at kd; cases kd
      have n1t : t1 ≠ t0 := fun z => by rw [z, k3] at kt1; cases kt1
      have b8 : SameBut [t0] H3 (upd H7 t0 (.lst ([.ref t1] ++ [.ref v]))) := (Same.but s37).upd (by simp)
      refine ⟨⟨Same.of_but s3 b8 (fun a h => by rw [List.mem_singleton.mp h]; exact ht00), _, _, .inr (.inr ⟨t1, v, d, upd_same, by rw [upd_ne n1t]; exact s37 _ _ kt1, by rw [upd_ne ndt]; exact s37 _ _ kd, by rw [upd_ne nvt]; exact k7, rfl⟩)⟩, ?_⟩
      rw [upd_same, k3]
      first | (show 2 - 1 < 2 - 0; decide) | (show 2 - 2 < 2 - 1; decide)
    · refine ⟨false, fun Q2 q2 => by walk_at "go"; exact q2, fun z => (Bool.noConfusion z), fun _ => ?_⟩
      walk_at "go"
      exact q t0 t1 t2 d H3 s3 k3 kt1 kd kt2
theorem c__law_char (D : Def K mg "_law_char" s__law_char ["number"]) (T : Tp w K mg cs)  : Cal P w K mg base CX0 1 "_law_char" (sp__law_char K cs) := by
  refine D.ok sc__law_char (fun vs H Q E h => ?_) (fun f cdv A outer s H vs Q E hr h => ?_)
  · obtain ⟨b, rfl, _⟩ := h; rfl
  · obtain ⟨b, rfl, hb, hp, q⟩ := h
    refine ⟨_, (pss_cons (ps_set (i := 1) sc__law_char.nd rfl (by first | exact Or.inl rfl | exact Or.inr rfl) pe_str)
      (pss_cons (ps_set (i := 1) sc__law_char.nd rfl (by first | exact Or.inl rfl | exact Or.inr rfl) (pe_op op_add_str (pv 1) pe_str))
      (pss_one (ps_ret (pe_ix ix_str (pv 1) (pv 0) (fun _ _ => rfl)))))), ?_⟩
    walk_at "go"
    have h := ch_law b hb hp
    show rIxS _ (.int ((b : Int) - 32 - (if decide ((37 : Int) < (b : Int)) = true then 1 else 0))) H _
    rw [show (b : Int) - 32 - (if decide ((37 : Int) < (b : Int)) = true then 1 else 0) = ((b - 32 - (if b > 37 then 1 else 0) : Nat) : Int) by simp only [decide_eq_true_eq]; split <;> split <;> omega]
    refine ⟨_, _, b, rfl, rfl, small64 (by decide +kernel), at_char h, ?_⟩
    exact q
theorem c__law_alike_step (D : Def K mg "_law_alike" s__law_alike ["actual", "due"]) (T : Tp w K mg cs)  (d : Nat) (c__law_alike : Cal P w K mg base CX0 (1 + d) "_law_alike" (sp__law_alike_at K cs d)) : Cal P w K mg base CX0 (1 + d + 1) "_law_alike" (sp__law_alike K cs d) := by
  refine D.ok sc__law_alike (fun vs H Q E h => ?_) (fun f cdv A outer s H vs Q E hr h => ?_)
  · obtain ⟨x, y, rfl, _⟩ := h; rfl
  · obtain ⟨x, y, rfl, hA, q⟩ := h
    refine ⟨_, (pss_cons (ps_if (pt_cmpR op_isN (pv 1) pe_non (by first | rfl | exact nomark _)) (pss_one (ps_ret (pe_cmpR op_isN (pv 0) pe_non (by first | rfl | exact nomark _)))) pss_nil)
      (pss_cons (ps_if (pt_val (pe_callB call_isi (by rfl) T.m_isinstance (by decide +kernel) (pa_cons (pv 1) (pa_cons (pe_bltn (v := .ty "tuple") (u := .type "tuple") (by rfl) T.m_tuple (by decide +kernel) rfl) pa_nil)))) (pss_cons (ps_if (PW.pt (pw_or (pt_not (pt_val (pe_callB call_isi (by rfl) T.m_isinstance (by decide +kernel) (pa_cons (pv 0) (pa_cons (pe_bltn (v := .ty "tuple") (u := .type "tuple") (by rfl) T.m_tuple (by decide +kernel) rfl) pa_nil))))) (pw_or1 (pt_cmpR op_ne (pe_callB call_len_seq (by rfl) T.m_len PySem.boot_len (pa_cons (pv 0) pa_nil)) (pe_callB call_len_seq (by rfl) T.m_len PySem.boot_len (pa_cons (pv 1) pa_nil)) (by first | rfl | exact nomark _))))) (pss_one (ps_ret pe_bl)) pss_nil)
      (pss_cons (ps_for PassesOwn.never rfl (pi_range1 (by rfl) T.m_range (pa_cons (pe_callB call_len_seq (by rfl) T.m_len PySem.boot_len (pa_cons (pv 1) pa_nil)) pa_nil)) (pg_name (i := 2) sc__law_alike.nd rfl (by first | exact Or.inl rfl | exact Or.inr rfl)) (pss_one (ps_if (pt_not (pt_val (pe_c c__law_alike hr (by omega) (by rfl) (pa_cons (pe_ix ix_tup (pv 0) (pv 2) (fun _ _ => rfl)) (pa_cons (pe_ix ix_tup (pv 1) (pv 2) (fun _ _ => rfl)) pa_nil))))) (pss_one (ps_ret pe_bl)) pss_nil)))
      (pss_one (ps_ret pe_bl)))) pss_nil)
      (pss_cons (ps_if (pt_val (pe_callB call_isi (by rfl) T.m_isinstance (by decide +kernel) (pa_cons (pv 1) (pa_cons (pe_bltn (v := .ty "str") (u := .type "str") (by rfl) T.m_str (by decide +kernel) rfl) pa_nil)))) (pss_one (ps_ret (pe_and (pe_callB call_isi (by rfl) T.m_isinstance (by decide +kernel) (pa_cons (pv 0) (pa_cons (pe_bltn (v := .ty "str") (u := .type "str") (by rfl) T.m_str (by decide +kernel) rfl) pa_nil))) (pe_one (pe_cmpR (op_eqD (hu64 hr)) (pv 0) (pv 1) (by first | rfl | exact nomark _)))))) pss_nil)
      (pss_cons (ps_if (pt_cmpR op_ne (pe_callB call_isi (by rfl) T.m_isinstance (by decide +kernel) (pa_cons (pv 0) (pa_cons (pe_bltn (v := .ty "bool") (u := .type "bool") (by rfl) T.m_bool (by decide +kernel) rfl) pa_nil))) (pe_callB call_isi (by rfl) T.m_isinstance (by decide +kernel) (pa_cons (pv 1) (pa_cons (pe_bltn (v := .ty "bool") (u := .type "bool") (by rfl) T.m_bool (by decide +kernel) rfl) pa_nil))) (by first | rfl | exact nomark _)) (pss_one (ps_ret pe_bl)) pss_nil)
      (pss_one (ps_ret (pe_and (pe_callB call_isi (by rfl) T.m_isinstance (by decide +kernel) (pa_cons (pv 0) (pa_cons (pe_bltn (v := .ty "int") (u := .type "int") (by rfl) T.m_int (by decide +kernel) rfl) pa_nil))) (pe_one (pe_cmpR (op_eqD (hu64 hr)) (pv 0) (pv 1) (by first | rfl | exact nomark _)))))))))), ?_⟩
    have hcase : (x = y ∧ ((∃ n, x = .int n) ∨ ∃ z, x = .str z ∧ PyData.strOk z = true)) ∨ ∃ e, d = e + 1 ∧ ∃ (a b : Addr) (xs ys : List V), x = .ref a ∧ y = .ref b ∧ H a = some (.tup xs) ∧ H b = some (.tup ys) ∧ xs.length = ys.length ∧ xs.length ≤ 1000 ∧ ∀ i, i < xs.length → Al K H e (xs.getD i .non) (ys.getD i .non) := by
      cases d with
      | zero => exact .inl hA
      | succ e => exact hA.elim .inl fun h => .inr ⟨e, rfl, h⟩
    rcases hcase with ⟨rfl, ⟨n, rfl⟩ | ⟨z, rfl, hok⟩⟩ | ⟨e, rfl, a, b, xs, ys, rfl, rfl, ka, kb, hl, hl2, hk⟩
    · walk_at "go"
      refine ⟨_, .ty "tuple", _, _, false, rfl, .ty _, .base (.int _), kit_ty (by decide +kernel), ?_⟩
      walk_at "go"
      refine ⟨_, .ty "str", _, _, false, rfl, .ty _, .base (.int _), kit_ty (by decide +kernel), ?_⟩
      walk_at "go"
      exact eqD_same (.int _) (.int _) (by unfold SeqAt.shaped; simp [PyData.canLay0, PyData.depth]) q
    · walk_at "go"
      refine ⟨_, .ty "tuple", _, _, false, rfl, .ty _, .base (.str _), kit_ty (by decide +kernel), ?_⟩
      walk_at "go"
      exact eqD_same (d := .str z) (.str _) (.str _) (by unfold SeqAt.shaped; simp [PyData.canLay0, PyData.depth, hok]) q
    · walk_at "go"
      refine ⟨a, xs, rfl, .inr (SqT.of ka), ?_⟩
      walk_at "go"
      refine ⟨b, ys, rfl, .inr (SqT.of kb), ?_⟩
      walk_at "go"
      refine ifNe (by rw [hl]) ?_
      walk_at "go"
      refine ⟨b, ys, rfl, .inr (SqT.of kb), ?_⟩
      have hy : ys.length ≤ 1000 := by omega
      walk_at "go"
      refine for_rangeD (lo := 0) (n := ys.length) (fun i σ H2 => H = H2 ∧ ∃ o, σ = [some (.ref a), some (.ref b), o]) ⟨rfl, _, rfl⟩ ?_ ?_
      · rintro i _ _ hi ⟨rfl, o, rfl⟩
        have ex : atI xs (i : Int) = some (xs.getD i .non) := atI_nat (by rw [List.getElem?_eq_getElem (by omega), List.getD_eq_getElem?_getD, List.getElem?_eq_getElem (by omega)]; rfl)
        have ey : atI ys (i : Int) = some (ys.getD i .non) := atI_nat (by rw [List.getElem?_eq_getElem (by omega), List.getD_eq_getElem?_getD, List.getElem?_eq_getElem (by omega)]; rfl)
        rw [Int.zero_add]
        walk_at "go"
        refine ⟨_, _, _, _, rfl, rfl, SqT.of ka, ex, ?_⟩
        walk_at "go"
        refine ⟨_, _, _, _, rfl, rfl, SqT.of kb, ey, ?_⟩
        refine ⟨_, _, rfl, hk i (by omega), ?_⟩
        walk_at "go"
        exact ⟨_, rfl⟩
      · rintro _ _ ⟨rfl, o, rfl⟩
        walk_at "go"
        exact q
theorem c__law_alike (D : Def K mg "_law_alike" s__law_alike ["actual", "due"]) (T : Tp w K mg cs)  : ∀ d : Nat, Cal P w K mg base CX0 (1 + d + 1) "_law_alike" (sp__law_alike K cs d)
  | 0 => c__law_alike_step D T  0 (D.none sc__law_alike)
  | d + 1 => c__law_alike_step D T  (d + 1) (c__law_alike D T  d)
theorem c__law_bytes (D : Def K mg "_law_bytes" s__law_bytes ["script"]) (T : Tp w K mg cs)  : Cal P w K mg base CX0 1 "_law_bytes" (sp__law_bytes K cs) := by
  refine D.ok sc__law_bytes (fun vs H Q E h => ?_) (fun f cdv A outer s H vs Q E hr h => ?_)
  · obtain ⟨a, ns, rfl, _⟩ := h; rfl
  · obtain ⟨a, ns, rfl, hS, hl, q⟩ := h
    refine ⟨_, (pss_cons (ps_set (i := 1) sc__law_bytes.nd rfl (by first | exact Or.inl rfl | exact Or.inr rfl) pe_int)
      (C8.pss_cut (ps_if (pt_cmpR op_gt (pe_callB call_len_seq (by rfl) T.m_len PySem.boot_len (pa_cons (pv 0) pa_nil)) pe_int (by first | rfl | exact nomark _)) (pss_one (ps_set (i := 1) sc__law_bytes.nd rfl (by first | exact Or.inl rfl | exact Or.inr rfl) (pe_callTy call_int1 (by rfl) T.m_int (by decide +kernel) (pa_cons (pe_ix ix_list (pv 0) pe_int (fun _ _ => rfl)) pa_nil)))) pss_nil)
      (pss_cons (ps_if (pt_cmpR op_lt (pv 1) (pe_op op_pow pe_int pe_int) (by first | rfl | exact nomark _)) (pss_one (ps_ret (pe_lc (own := [("cell", 4)]) (g := gName 4) (tt := tYes) (by rfl) sc__law_bytes.nd (pi_list (pe_slice sl_list (pv 0) po_none (po_some pe_int))) (blkOk_by (own := [("cell", 4)]) (N := ["script", "first", "data", "k", "cell"]) (sc := defScope s__law_bytes) (by decide +kernel)) (fun _ _ _ _ _ => (pg_name (i := 4) sc__law_bytes.nd rfl (by first | exact Or.inl rfl | exact Or.inr rfl))) (fun _ _ _ _ _ => pts_nil) (fun _ _ _ _ _ => (pe_op op_mod (pe_callTy call_int1 (by rfl) T.m_int (by decide +kernel) (pa_cons (pv 4) pa_nil)) pe_int))))) pss_nil)
      (pss_cons (ps_set (i := 2) sc__law_bytes.nd rfl (by first | exact Or.inl rfl | exact Or.inr rfl) (pe_lst pa_nil))
      (pss_cons (ps_for PassesOwn.never rfl (pi_range1 (by rfl) T.m_range (pa_cons pe_int pa_nil)) (pg_name (i := 3) sc__law_bytes.nd rfl (by first | exact Or.inl rfl | exact Or.inr rfl)) (pss_one (ps_if (pt_cmpR op_gt (pv 1) pe_int (by first | rfl | exact nomark _)) (pss_cons (ps_expr (pe_bm PySem.F.plainAttrs_list PySem.F.slot_list_append PySem.F.type_list_append mt_append (pv 2) (pa_cons (pe_op op_mod (pe_callTy call_int1 (by rfl) T.m_int (by decide +kernel) (pa_cons (pv 1) pa_nil)) pe_int) pa_nil)))
      (pss_one (ps_set (i := 1) sc__law_bytes.nd rfl (by first | exact Or.inl rfl | exact Or.inr rfl) (pe_op op_fdiv (pv 1) pe_int)))) pss_nil)))
      (pss_one (ps_ret (pv 2)))))))), ?_⟩
    walk_at "go"
    refine ⟨fun σ H2 => H = H2 ∧ ∃ f : Int, σ = [some (.ref a), some (.int f), none, none, none], ?_, ?_⟩
    · refine ⟨_, rfl, a, _, rfl, .inl hS, ?_⟩
      walk_at "go"
      simp only [List.length_map]
      refine ite2 (fun c => ?_) (fun c => ?_)
      · have c' : (0 : Int) < ns.length := of_decide_eq_true c
        refine ⟨_, rfl, _, _, _, _, rfl, rfl, hS, at_ints (k := 0) (by omega), ?_⟩
        walk_at "go"
        exact ⟨_, rfl⟩
      · exact ⟨rfl, _, rfl⟩
    rintro _ _ ⟨rfl, f, rfl⟩
    walk_at "go"
    refine ite2 (fun c => ?_) (fun c => ?_)
    · walk_at "go"
      refine ⟨a, _, rfl, hS, fun p2 hp2 => ?_⟩
      rw [show ((63 : Int)) = ((63 : Nat) : Int) from rfl, cut_to, ← List.map_take]
      refine ⟨p2, rfl, ⟨_, SqL.new⟩, fun D hD => ?_⟩
      have hlt : (ns.take 63).length ≤ 63 := by rw [List.length_take]; omega
      refine lc_map (xs := (ns.take 63).map V.int) (j := 4) f8 hD SqL.new (by rw [List.length_map]; omega) (fun x H2 Q2 hx s2 q2 => ?_) (fun H2 s2 hD2 => ?_)
      · obtain ⟨n, hn, rfl⟩ := List.mem_map.mp hx
        walk_at "go"
        exact q2 _ (Same.refl _)
      · refine q ((ns.take 63).map fun n => (n % 256).toNat) D H2 (fun b hb => ?_) (by rw [List.length_map]; exact hlt) ((Same.new hp2).trans s2) ?_
        · obtain ⟨n, _, rfl⟩ := List.mem_map.mp hb
          omega
        · rw [hD2, List.map_map, List.map_map]
          congr 2
          refine List.map_congr_left fun n _ => ?_
          show V.int (n % 256) = V.int (((n % 256).toNat : Nat) : Int)
          rw [show (((n % 256).toNat : Nat) : Int) = n % 256 by omega]
    · walk_at "go"
      intro l hl0
      walk_at "go"
      refine for_rangeD (lo := 0) (n := 62) (fun i σ H2 => ∃ (bs : List Nat) (f : Int) (o : Option V), By bs ∧ bs.length ≤ i ∧ Same H H2 ∧ H2 l = some (.lst (bs.map iv)) ∧ σ = [some (.ref a), some (.int f), some (.ref l), o, none]) ⟨[], _, _, (fun _ z => nomatch z), Nat.le_refl _, Same.new hl0, upd_same, rfl⟩ ?_ ?_
      · rintro i _ H2 hi ⟨bs, f, o, hB, hbl, s2, k2, rfl⟩
        walk_at "go"
        refine ite2 (fun c => ?_) (fun c => ?_)
        · refine ⟨_, rfl, .inl ⟨rfl, _, SqL.of k2⟩, ?_⟩
          walk_at "go"
          refine ⟨_, _, _, rfl, rfl, k2, (by rw [List.length_map]; exact small64' (by omega)), ?_⟩
          walk_at "go"
          refine ⟨bs ++ [(f % 256).toNat], _, _, fun b hb => ?_, by rw [List.length_append, List.length_singleton]; omega, fun b o e => ?_, ?_, rfl⟩
          · rcases List.mem_append.mp hb with hb | hb
            · exact hB b hb
            · rw [List.mem_singleton.mp hb]; omega
          · rw [upd_ne (ne_of_none e hl0)]; exact s2 _ _ e
          · rw [upd_same, List.map_append]
            show _ = some (HO.lst (bs.map iv ++ [V.int (((f % 256).toNat : Nat) : Int)]))
            rw [show (((f % 256).toNat : Nat) : Int) = f % 256 by omega]
        · exact ⟨bs, f, _, hB, by omega, s2, k2, rfl⟩
      · rintro _ H2 ⟨bs, f, o, hB, hbl, s2, k2, rfl⟩
        walk_at "go"
        exact q bs l H2 hB (by omega) s2 k2
theorem c__law_due (D : Def K mg "_law_due" s__law_due ["data"]) (T : Tp w K mg cs) (c__law_char : Cal P w K mg base CX0 1 "_law_char" (sp__law_char K cs)) : Cal P w K mg base CX0 2 "_law_due" (sp__law_due K cs) := by
  refine D.ok sc__law_due (fun vs H Q E h => ?_) (fun f cdv A outer s H vs Q E hr h => ?_)
  · obtain ⟨a, bs, rfl, _⟩ := h; rfl
  · obtain ⟨a, bs, rfl, hS, hB, hl, q⟩ := h
    refine ⟨_, (pss_cons (ps_set (i := 1) sc__law_due.nd rfl (by first | exact Or.inl rfl | exact Or.inr rfl) pe_str)
      (pss_cons (ps_for PassesOwn.never rfl (pi_list (pv 0)) (pg_name (i := 2) sc__law_due.nd rfl (by first | exact Or.inl rfl | exact Or.inr rfl)) (pss_one (ps_if (PW.pt (pw_or (pt_cmpR op_lt (pv 2) pe_int (by first | rfl | exact nomark _)) (pw_or (pt_cmpR op_gt (pv 2) pe_int (by first | rfl | exact nomark _)) (pw_or1 (pt_cmpR op_in_seq (pv 2) (pe_lst (pa_cons pe_int (pa_cons pe_int (pa_cons pe_int pa_nil)))) (by first | rfl | exact nomark _)))))) (pss_one (ps_set (i := 1) sc__law_due.nd rfl (by first | exact Or.inl rfl | exact Or.inr rfl) (pe_op op_add_str (pe_op op_add_str (pe_op op_add_str (pv 1) pe_str) (pe_ix ix_str pe_str (pe_op op_fdiv (pv 2) pe_int) (fun _ _ => rfl))) (pe_ix ix_str pe_str (pe_op op_mod (pe_callTy call_int1 (by rfl) T.m_int (by decide +kernel) (pa_cons (pv 2) pa_nil)) pe_int) (fun _ _ => rfl))))) (pss_one (ps_set (i := 1) sc__law_due.nd rfl (by first | exact Or.inl rfl | exact Or.inr rfl) (pe_op op_add_str (pv 1) (pe_c c__law_char hr (by decide) (by rfl) (pa_cons (pe_op op_sub (pe_op op_sub (pv 2) pe_int) (pe_callTy call_int1 (by rfl) T.m_int (by decide +kernel) (pa_cons (pe_cmpR op_gt (pv 2) pe_int (by first | rfl | exact nomark _)) pa_nil))) pa_nil))))))))
      (pss_one (ps_ret (pe_op op_add_str (pv 1) pe_str))))), ?_⟩
    have eq1 : ("\"" : Str) = sz [34] := lit_sz (by decide +kernel)
    have eb1 : ("\\" : Str) = sz [92] := lit_sz (by decide +kernel)
    have hexS : ("0123456789abcdef" : Str).length ≤ sizeLine := small64 (by decide +kernel)
    refine ⟨_, rfl, a, rfl, ⟨_, hS⟩, for_listD (xs := bs.map iv) (fun i σ H2 => Same H H2 ∧ ∃ o, σ = [some (.ref a), some (.str (sz (34 :: inner (bs.take i)))), o]) ⟨Same.refl _, _, by rw [show sz (34 :: inner (bs.take 0)) = "\"" from eq1.symm]; rfl⟩ (fun i σ H2 _ h => h.1.seq hS) ?_ ?_⟩
    · rintro i x _ H2 hxx ⟨s2, o, rfl⟩
      obtain ⟨b, hb, rfl⟩ : ∃ b, bs[i]? = some b ∧ x = iv b := by
        rw [List.getElem?_map] at hxx
        cases e : bs[i]? with
        | none => rw [e] at hxx; cases hxx
        | some b => rw [e] at hxx; cases hxx; exact ⟨b, rfl, rfl⟩
      have hb8 := hB b (List.mem_of_getElem? hb)
      have hi : i < bs.length := (List.getElem?_eq_some_iff.mp hb).1
      have hin : 34 :: inner (bs.take (i + 1)) = (34 :: inner (bs.take i)) ++ esc b := by
        rw [List.take_add_one, hb]
        show 34 :: (bs.take i ++ [b]).flatMap esc = _
        rw [List.flatMap_append]; simp [inner]
      have hlen : (inner (bs.take i)).length ≤ 200 := by have := inner_len (bs.take i); rw [List.length_take] at this; omega
      have esc1 : ∀ (D : Ends) (H3 : Hp), plain b = false → D.nx [some (.ref a), some (.str (sz (34 :: inner (bs.take (i + 1))))), some (iv b)] H3 →
          tAsg (tOp (fun x y H Q => ∃ i j, x = V.str i ∧ y = V.str j ∧ i.length + j.length ≤ sizeLine ∧ Q (V.str (i ++ j)) H)
              (tOp (fun x y H Q => ∃ i j, x = V.str i ∧ y = V.str j ∧ i.length + j.length ≤ sizeLine ∧ Q (V.str (i ++ j)) H)
                (tOp (fun x y H Q => ∃ i j, x = V.str i ∧ y = V.str j ∧ i.length + j.length ≤ sizeLine ∧ Q (V.str (i ++ j)) H) (tVar 1) (tC (.str "\\")))
                (tOp rIxS (tC (.str "0123456789abcdef")) (tOp (rI CDiv fun i j => V.int (i / j)) (tVar 2) (tC (V.int 16)))))
              (tOp rIxS (tC (.str "0123456789abcdef")) (tOp (rI (fun x j => 0 < j) fun i j => V.int (i % j))
                  (tCB (fun xs H Q => (∃ i, xs = [V.int i] ∧ Q (V.int i) H) ∨ ∃ k, xs = [V.bl k] ∧ Q (V.int (if k = true then 1 else 0)) H) (tCons (tVar 2) tNil)) (tC (V.int 16)))))
            (gName 1) D [some (.ref a), some (.str (sz (34 :: inner (bs.take i)))), some (iv b)] H3 := by
        intro D H3 hp hD
        have e1 := ch_hex (b / 16) (by omega)
        have e2 := ch_hex (b % 16) (by omega)
        refine ⟨_, rfl, _, _, rfl, rfl, small64 (by rw [eb1, sz_len, sz_len, List.length_cons, List.length_singleton]; omega), ?_⟩
        walk_at "go"
        show rIxS _ (.int ((b : Int) / 16)) H3 _
        rw [show (b : Int) / 16 = ((b / 16 : Nat) : Int) by omega]
        refine ⟨_, _, hx (b / 16), rfl, rfl, hexS, at_char e1, ?_⟩
        refine ⟨_, _, rfl, rfl, small64 (by rw [eb1, sz_add, sz_len, List.length_append, List.length_cons, List.length_singleton]; show _ + 1 ≤ _; omega), ?_⟩
        walk_at "go"
        show rIxS _ (.int ((b : Int) % 16)) H3 _
        rw [show (b : Int) % 16 = ((b % 16 : Nat) : Int) by omega]
        refine ⟨_, _, hx (b % 16), rfl, rfl, hexS, at_char e2, ?_⟩
        have ee : sz (34 :: inner (bs.take i)) ++ ("\\" : Str) ++ (⟨#[hx (b / 16)]⟩ : Str) = sz ((34 :: inner (bs.take i)) ++ [92] ++ [hx (b / 16)]) := by
          rw [eb1, sz_add]
          exact sz_add _ _
        rw [ee]
        refine ⟨_, _, rfl, rfl, small64 (by rw [sz_len, List.length_append, List.length_append, List.length_cons, List.length_singleton, List.length_singleton]; show _ + 1 ≤ _; omega), ?_⟩
        have ef : sz ((34 :: inner (bs.take i)) ++ [92] ++ [hx (b / 16)]) ++ (⟨#[hx (b % 16)]⟩ : Str) = sz (34 :: inner (bs.take (i + 1))) := by
          rw [hin, show esc b = [92, hx (b / 16), hx (b % 16)] from if_neg (by rw [hp]; decide)]
          refine (sz_add _ [hx (b % 16)]).trans ?_
          simp
        rw [ef]
        exact hD
      by_cases h1 : b < 32
      · have hp : plain b = false := by unfold plain; rw [decide_eq_false (show ¬ 32 ≤ b by omega)]; rfl
        walk_at "go"
        rw [show decide ((b : Int) < 32) = true from decide_eq_true (by omega)]
        exact esc1 _ _ hp ⟨s2, _, rfl⟩
      walk_at "go"
      rw [show decide ((b : Int) < 32) = false from decide_eq_false (by omega)]
      walk_at "go"
      by_cases h2 : 126 < b
      · have hp : plain b = false := by unfold plain; rw [decide_eq_false (show ¬ b ≤ 126 by omega), Bool.and_false]; rfl
        rw [show decide ((126 : Int) < (b : Int)) = true from decide_eq_true (by omega)]
        exact esc1 _ _ hp ⟨s2, _, rfl⟩
      rw [show decide ((126 : Int) < (b : Int)) = false from decide_eq_false (by omega)]
      walk_at "go"
      intro l hl0
      walk_at "go"
      refine ⟨l, [.int 34, .int 37, .int 92], rfl, .inl (SqL.of upd_same), rfl, rfl, ?_⟩
      have ei : inV (iv b) [.int 34, .int 37, .int 92] = (decide (b = 34) || decide (b = 37) || decide (b = 92)) := by
        unfold inV iv
        show (((34 : Int) == (b : Int)) || (((37 : Int) == (b : Int)) || (((92 : Int) == (b : Int)) || false))) = _
        rw [Bool.or_false, Bool.eq_iff_iff]
        simp
        omega
      rw [show (if false = true then !inV (iv b) [V.int 34, V.int 37, V.int 92] else inV (iv b) [V.int 34, V.int 37, V.int 92]) = (decide (b = 34) || decide (b = 37) || decide (b = 92)) from ei]
      by_cases h3 : b = 34 ∨ b = 37 ∨ b = 92
      · have hp : plain b = false := by
          unfold plain
          rw [Bool.eq_false_iff]
          intro z
          simp at z
          omega
        rw [show (decide (b = 34) || decide (b = 37) || decide (b = 92)) = true by simpa [or_assoc] using h3]
        exact ⟨_, rfl, esc1 _ _ hp ⟨s2.trans (Same.new hl0), _, rfl⟩⟩
      have hp : plain b = true := by
        unfold plain
        simp
        omega
      rw [show (decide (b = 34) || decide (b = 37) || decide (b = 92)) = false by rw [Bool.eq_false_iff]; intro z; simp at z; omega]
      walk_at "go"
      refine .inr ⟨_, rfl, ?_⟩
      refine ⟨_, _, rfl, rfl, ?_⟩
      refine ⟨b, rfl, by omega, by unfold plain at hp; simp at hp; omega, ?_⟩
      refine ⟨_, _, rfl, rfl, small64 (by rw [sz_len, sz_len, List.length_cons, List.length_singleton]; omega), ?_⟩
      rw [sz_add, show (34 :: inner (bs.take i)) ++ [b] = 34 :: inner (bs.take (i + 1)) by rw [hin, show esc b = [b] from if_pos hp]]
      exact ⟨s2.trans (Same.new hl0), _, rfl⟩
    · rintro _ H2 ⟨s2, o, rfl⟩
      rw [List.length_map, List.take_length]
      refine ⟨_, rfl, _, _, rfl, rfl, small64 (by rw [eq1, sz_len, sz_len, List.length_cons, List.length_singleton]; have := inner_len bs; omega), ?_⟩
      rw [eq1, sz_add]
      exact q _ s2
theorem c_law {f : Addr} {fd : FuncData} (D : L2.Fun K "law" "law" s_law f fd) (T : Tp w K mg cs) (c__law_bytes : Cal P w K mg base CX0 1 "_law_bytes" (sp__law_bytes K cs)) (c__law_due : Cal P w K mg base CX0 2 "_law_due" (sp__law_due K cs)) (c_print_string : Cal P w K mg base CX0 3 "print_string" (sp_print_string K cs)) (c_tokens_of : Cal P w K mg base CX0 7 "tokens_of" (sp_tokens_of K cs)) (c__law_alike : Cal P w K mg base CX0 5 "_law_alike" (sp__law_alike K cs 3)) : FnOk P w K mg base CX0 8 f fd ["script"] (sp_law K cs) := by
  refine D.ok sc_law (fun vs H Q E h => ?_) (fun cdv A outer s H vs Q E hr h => ?_)
  · obtain ⟨a, ns, rfl, _⟩ := h; rfl
  · obtain ⟨a, ns, rfl, hS, hlen, q⟩ := h
    refine ⟨_, (pss_cons (ps_set (i := 1) sc_law.nd rfl (by first | exact Or.inl rfl | exact Or.inr rfl) (pe_c c__law_bytes hr (by decide) (by rfl) (pa_cons (pv 0) pa_nil)))
      (pss_cons (ps_set (i := 2) sc_law.nd rfl (by first | exact Or.inl rfl | exact Or.inr rfl) (pe_c c__law_due hr (by decide) (by rfl) (pa_cons (pv 1) pa_nil)))
      (pss_cons (ps_set (i := 3) sc_law.nd rfl (by first | exact Or.inl rfl | exact Or.inr rfl) (pe_callTy call_list_of (by rfl) T.m_list (by decide +kernel) (pa_cons (pv 1) pa_nil)))
      (pss_cons (ps_set (i := 4) sc_law.nd rfl (by first | exact Or.inl rfl | exact Or.inr rfl) (pe_c c_print_string hr (by decide) (by rfl) (pa_cons (pv 3) pa_nil)))
      (pss_cons (ps_set (i := 5) sc_law.nd rfl (by first | exact Or.inl rfl | exact Or.inr rfl) (pe_c c_print_string hr (by decide) (by rfl) (pa_cons (pe_callTy call_tuple_of (by rfl) T.m_tuple (by decide +kernel) (pa_cons (pv 1) pa_nil)) pa_nil)))
      (pss_cons (ps_if (PW.pt (pw_or (pt_not (pt_val (pe_callB call_isi (by rfl) T.m_isinstance (by decide +kernel) (pa_cons (pv 4) (pa_cons (pe_bltn (v := .ty "str") (u := .type "str") (by rfl) T.m_str (by decide +kernel) rfl) pa_nil))))) (pw_or (pt_not (pt_val (pe_callB call_isi (by rfl) T.m_isinstance (by decide +kernel) (pa_cons (pv 5) (pa_cons (pe_bltn (v := .ty "str") (u := .type "str") (by rfl) T.m_str (by decide +kernel) rfl) pa_nil))))) (pw_or (pt_cmpR op_ne (pv 4) (pv 2) (by first | rfl | exact nomark _)) (pw_or (pt_cmpR op_ne (pv 5) (pv 2) (by first | rfl | exact nomark _)) (pw_or1 (pt_cmpR (op_neD (hu64 hr)) (pv 3) (pv 1) (by first | rfl | exact nomark _)))))))) (pss_one (ps_ret pe_bl)) pss_nil)
      (pss_cons (ps_set (i := 6) sc_law.nd rfl (by first | exact Or.inl rfl | exact Or.inr rfl) (pe_c c_tokens_of hr (by decide) (by rfl) (pa_cons (pv 4) pa_nil)))
      (pss_cons (ps_set (i := 7) sc_law.nd rfl (by first | exact Or.inl rfl | exact Or.inr rfl) (pe_tup (pa_cons pe_str (pa_cons pe_str (pa_cons pe_int (pa_cons (pe_op op_add (pe_callB call_len_str (by rfl) T.m_len PySem.boot_len (pa_cons (pv 2) pa_nil)) pe_int) pa_nil))))))
      (pss_one (ps_ret (pe_and (pe_callB call_isi (by rfl) T.m_isinstance (by decide +kernel) (pa_cons (pv 6) (pa_cons (pe_bltn (v := .ty "list") (u := .type "list") (by rfl) T.m_list (by decide +kernel) rfl) pa_nil))) (pe_one (pe_c c__law_alike hr (by decide) (by rfl) (pa_cons (pe_callTy call_tuple_of (by rfl) T.m_tuple (by decide +kernel) (pa_cons (pv 6) pa_nil)) (pa_cons (pe_tup (pa_cons (pe_tup (pa_cons pe_str (pa_cons (pe_callTy call_tuple_of (by rfl) T.m_tuple (by decide +kernel) (pa_cons (pv 1) pa_nil)) (pa_cons pe_int (pa_cons pe_int pa_nil))))) (pa_cons (pv 7) pa_nil))) pa_nil))))))))))))))), ?_⟩
    refine ⟨_, rfl, a, ns, rfl, hS, hlen, fun bs p H1 hB hl s1 k1 => ?_⟩
    refine ⟨_, rfl, p, bs, rfl, SqL.of k1, hB, hl, fun H2 s2 => ?_⟩
    refine ⟨_, rfl, p, _, rfl, .inl (SqL.of (s2 _ _ k1)), fun p3 hp3 => ?_⟩
    generalize x3 : upd H2 p3 _ = H3
    obtain ⟨s3, k3⟩ : Same H2 H3 ∧ H3 p3 = some (.lst (bs.map iv)) := by subst x3; exact ⟨Same.new hp3, upd_same⟩
    have k13 := (s2.trans s3) _ _ k1
    refine ⟨_, rfl, p3, bs, rfl, .inl (SqL.of k3), hB, hl, fun H4 s4 => ?_⟩
    walk_at "go"
    refine ⟨p, _, rfl, .inl ⟨SqL.of (s4 _ _ k13), fun t1 ht1 => ?_⟩⟩
    generalize x5 : upd H4 t1 _ = H5
    obtain ⟨s5, k5⟩ : Same H4 H5 ∧ H5 t1 = some (.tup (bs.map iv)) := by subst x5; exact ⟨Same.new ht1, upd_same⟩
    refine ⟨t1, bs, rfl, .inr (SqT.of k5), hB, hl, fun H6 s6 => ?_⟩
    have s36 := s4.trans (s5.trans s6)
    have kP := s36 _ _ k3
    have kD := s36 _ _ k13
    walk_at "go"
    have hIV : bs.map iv = (bs.map fun b : Nat => (b : Int)).map V.int := by rw [List.map_map]; rfl
    refine neD_same (dp_ints (ns := bs.map fun b : Nat => (b : Int)) (SqL.of (by rw [← hIV]; exact kP))) (dp_ints (SqL.of (by rw [← hIV]; exact kD))) (shaped_ints _) ?_
    walk_at "go"
    refine fun tk t1' t2' d H7 s7 ktk kt1 kd kt2 => ?_
    have hln : (sz (tok bs)).length = (tok bs).length := rfl
    have hlS : (sz (tok bs)).length ≤ sizeLine := small64 (by rw [sz_len, tok_len]; have := inner_len bs; omega)
    walk_at "go"
    intro te hte
    generalize x8 : upd H7 te _ = H8
    obtain ⟨s8, k8⟩ : Same H7 H8 ∧ H8 te = some (.tup [.str "end", .str "", .int 1, .int (((tok bs).length : Int) + 1)]) := by subst x8; exact ⟨Same.new hte, upd_same⟩
    have ktk8 := s8 _ _ ktk
    walk_at "go"
    refine ⟨tk, _, rfl, .inl ⟨SqL.of (s8 _ _ ktk), fun tt htt => ?_⟩⟩
    generalize x9 : upd H8 tt _ = H9
    obtain ⟨s9, k9⟩ : Same H8 H9 ∧ H9 tt = some (.tup [.ref t1', .ref t2']) := by subst x9; exact ⟨Same.new htt, upd_same⟩
    walk_at "go"
    have k9p : H9 p = some (.lst (bs.map iv)) := s9 _ _ (s8 _ _ (s7 _ _ kD))
    refine ⟨p, _, rfl, .inl ⟨SqL.of k9p, fun td htd => ?_⟩⟩
    generalize x10 : upd H9 td _ = H10
    obtain ⟨s10, k10⟩ : Same H9 H10 ∧ H10 td = some (.tup (bs.map iv)) := by subst x10; exact ⟨Same.new htd, upd_same⟩
    walk_at "go"
    intro u1 hu1
    generalize x11 : upd H10 u1 _ = H11
    obtain ⟨s11, k11⟩ : Same H10 H11 ∧ H11 u1 = some (.tup [.str "string", .ref td, .int 1, .int 1]) := by subst x11; exact ⟨Same.new hu1, upd_same⟩
    walk_at "go"
    intro u2 hu2
    generalize x12 : upd H11 u2 _ = H12
    obtain ⟨s12, k12⟩ : Same H11 H12 ∧ H12 u2 = some (.tup [.ref u1, .ref te]) := by subst x12; exact ⟨Same.new hu2, upd_same⟩
    have g9 : Same H9 H12 := s10.trans (s11.trans s12)
    have g8 : Same H8 H12 := s9.trans g9
    have g7 : Same H7 H12 := s8.trans g8
    have a0 : ∀ (e : Nat) (n : Int), Al K H12 e (.int n) (.int n) := fun e n => by
      cases e with
      | zero => exact ⟨rfl, .inl ⟨n, rfl⟩⟩
      | succ e => exact .inl ⟨rfl, .inl ⟨n, rfl⟩⟩
    have aS : ∀ (e : Nat) (z : Str), PyData.strOk z = true → Al K H12 e (.str z) (.str z) := fun e z hz => by
      cases e with
      | zero => exact ⟨rfl, .inr ⟨z, rfl, hz⟩⟩
      | succ e => exact .inl ⟨rfl, .inr ⟨z, rfl, hz⟩⟩
    have aD : Al K H12 1 (.ref d) (.ref td) := .inr ⟨d, td, _, _, rfl, rfl, g7 _ _ kd, (s11.trans s12) _ _ k10, rfl, by rw [List.length_map]; omega, fun i hi => by
      rw [List.length_map] at hi
      rw [List.getD_eq_getElem?_getD, List.getElem?_map, List.getElem?_eq_getElem hi]
      exact a0 0 _⟩
    have a1 : Al K H12 2 (.ref t1') (.ref u1) := .inr ⟨t1', u1, _, _, rfl, rfl, g7 _ _ kt1, s12 _ _ k11, rfl, by show 4 ≤ 1000; decide, fun i hi => by
      match i, hi with
      | 0, _ => exact aS 1 _ (by decide +kernel)
      | 1, _ => exact aD
      | 2, _ => exact a0 1 1
      | 3, _ => exact a0 1 1⟩
    have a2 : Al K H12 2 (.ref t2') (.ref te) := .inr ⟨t2', te, _, _, rfl, rfl, g7 _ _ kt2, g8 _ _ k8, rfl, by show 4 ≤ 1000; decide, fun i hi => by
      match i, hi with
      | 0, _ => exact aS 1 _ (by decide +kernel)
      | 1, _ => exact aS 1 _ (by decide +kernel)
      | 2, _ => exact a0 1 1
      | 3, _ => exact a0 1 _⟩
    refine ⟨.ref tt, .ref u2, rfl, .inr ⟨tt, u2, _, _, rfl, rfl, g9 _ _ k9, k12, rfl, by show 2 ≤ 1000; decide, fun i hi => ?_⟩, q _⟩
    match i, hi with
    | 0, _ => exact a1
    | 1, _ => exact a2
end
theorem all_mk {l : PySem.W.OpenLaw} {w : World} {K : PySem.W.Frag} {h : Heap} {mg : Str → Option Value} {fa f0 f1 f2 f3 f4 f5 f6 f7 f8 f9 f10 f11 f12 f13 f14 f15 f16 f17 f18 : Addr} (X : K.In h) (G : h.Ns mainGlobals mg) (hfa : mg "law" = some (.ref fa))
    {od0 an0 od1 an1 od2 an2 od3 an3 od4 an4 od5 an5 od6 an6 od7 an7 od8 an8 od9 an9 od10 an10 od11 an11 od12 an12 od13 an13 od14 an14 od15 an15 od16 an16 od17 an17 od18 an18 : Option Addr} {sl0 sl1 sl2 sl3 sl4 sl5 sl6 sl7 sl8 sl9 sl10 sl11 sl12 sl13 sl14 sl15 sl16 sl17 sl18 : Array (Option Value)} {oc0 kV0 dc0 pm0 cd0 ct0 oc1 kV1 dc1 pm1 cd1 ct1 oc2 kV2 dc2 pm2 cd2 ct2 oc3 kV3 dc3 pm3 cd3 ct3 oc4 kV4 dc4 pm4 cd4 ct4 oc5 kV5 dc5 pm5 cd5 ct5 oc6 kV6 dc6 pm6 cd6 ct6 oc7 kV7 dc7 pm7 cd7 ct7 oc8 kV8 dc8 pm8 cd8 ct8 oc9 kV9 dc9 pm9 cd9 ct9 oc10 kV10 dc10 pm10 cd10 ct10 oc11 kV11 dc11 pm11 cd11 ct11 oc12 kV12 dc12 pm12 cd12 ct12 oc13 kV13 dc13 pm13 cd13 ct13 oc14 kV14 dc14 pm14 cd14 ct14 oc15 kV15 dc15 pm15 cd15 ct15 oc16 kV16 dc16 pm16 cd16 ct16 oc17 kV17 dc17 pm17 cd17 ct17 oc18 kV18 dc18 pm18 cd18 ct18 : Value}
    (a0 : PySem.W.nsIn K mainGlobals "character_of" = some (some (.ref f0))) (l0 : K.lookup f0 = some ⟨oc0, od0, .func (PySem.W.fnOf "character_of" "character_of" (defArgs s_character_of) (defBody s_character_of) (defScope s_character_of) .none kV0 dc0 pm0 an0 cd0 ct0), sl0⟩) (c0 : PySem.W.codeIn K cd0 "character_of" = true) (k0 : PySem.W.keepIn K (.ref f0) = true)
    (a1 : PySem.W.nsIn K mainGlobals "print_byte" = some (some (.ref f1))) (l1 : K.lookup f1 = some ⟨oc1, od1, .func (PySem.W.fnOf "print_byte" "print_byte" (defArgs s_print_byte) (defBody s_print_byte) (defScope s_print_byte) .none kV1 dc1 pm1 an1 cd1 ct1), sl1⟩) (c1 : PySem.W.codeIn K cd1 "print_byte" = true) (k1 : PySem.W.keepIn K (.ref f1) = true)
    (a2 : PySem.W.nsIn K mainGlobals "print_string" = some (some (.ref f2))) (l2 : K.lookup f2 = some ⟨oc2, od2, .func (PySem.W.fnOf "print_string" "print_string" (defArgs s_print_string) (defBody s_print_string) (defScope s_print_string) .none kV2 dc2 pm2 an2 cd2 ct2), sl2⟩) (c2 : PySem.W.codeIn K cd2 "print_string" = true) (k2 : PySem.W.keepIn K (.ref f2) = true)
    (a3 : PySem.W.nsIn K mainGlobals "digit_of" = some (some (.ref f3))) (l3 : K.lookup f3 = some ⟨oc3, od3, .func (PySem.W.fnOf "digit_of" "digit_of" (defArgs s_digit_of) (defBody s_digit_of) (defScope s_digit_of) .none kV3 dc3 pm3 an3 cd3 ct3), sl3⟩) (c3 : PySem.W.codeIn K cd3 "digit_of" = true) (k3 : PySem.W.keepIn K (.ref f3) = true)
    (a4 : PySem.W.nsIn K mainGlobals "skip_blanks" = some (some (.ref f4))) (l4 : K.lookup f4 = some ⟨oc4, od4, .func (PySem.W.fnOf "skip_blanks" "skip_blanks" (defArgs s_skip_blanks) (defBody s_skip_blanks) (defScope s_skip_blanks) .none kV4 dc4 pm4 an4 cd4 ct4), sl4⟩) (c4 : PySem.W.codeIn K cd4 "skip_blanks" = true) (k4 : PySem.W.keepIn K (.ref f4) = true)
    (a5 : PySem.W.nsIn K mainGlobals "check_in_string" = some (some (.ref f5))) (l5 : K.lookup f5 = some ⟨oc5, od5, .func (PySem.W.fnOf "check_in_string" "check_in_string" (defArgs s_check_in_string) (defBody s_check_in_string) (defScope s_check_in_string) .none kV5 dc5 pm5 an5 cd5 ct5), sl5⟩) (c5 : PySem.W.codeIn K cd5 "check_in_string" = true) (k5 : PySem.W.keepIn K (.ref f5) = true)
    (a6 : PySem.W.nsIn K mainGlobals "read_escape" = some (some (.ref f6))) (l6 : K.lookup f6 = some ⟨oc6, od6, .func (PySem.W.fnOf "read_escape" "read_escape" (defArgs s_read_escape) (defBody s_read_escape) (defScope s_read_escape) .none kV6 dc6 pm6 an6 cd6 ct6), sl6⟩) (c6 : PySem.W.codeIn K cd6 "read_escape" = true) (k6 : PySem.W.keepIn K (.ref f6) = true)
    (a7 : PySem.W.nsIn K mainGlobals "read_string" = some (some (.ref f7))) (l7 : K.lookup f7 = some ⟨oc7, od7, .func (PySem.W.fnOf "read_string" "read_string" (defArgs s_read_string) (defBody s_read_string) (defScope s_read_string) .none kV7 dc7 pm7 an7 cd7 ct7), sl7⟩) (c7 : PySem.W.codeIn K cd7 "read_string" = true) (k7 : PySem.W.keepIn K (.ref f7) = true)
    (a8 : PySem.W.nsIn K mainGlobals "read_token" = some (some (.ref f8))) (l8 : K.lookup f8 = some ⟨oc8, od8, .func (PySem.W.fnOf "read_token" "read_token" (defArgs s_read_token) (defBody s_read_token) (defScope s_read_token) .none kV8 dc8 pm8 an8 cd8 ct8), sl8⟩) (c8 : PySem.W.codeIn K cd8 "read_token" = true) (k8 : PySem.W.keepIn K (.ref f8) = true)
    (a9 : PySem.W.nsIn K mainGlobals "tokens_of" = some (some (.ref f9))) (l9 : K.lookup f9 = some ⟨oc9, od9, .func (PySem.W.fnOf "tokens_of" "tokens_of" (defArgs s_tokens_of) (defBody s_tokens_of) (defScope s_tokens_of) .none kV9 dc9 pm9 an9 cd9 ct9), sl9⟩) (c9 : PySem.W.codeIn K cd9 "tokens_of" = true) (k9 : PySem.W.keepIn K (.ref f9) = true)
    (a10 : PySem.W.nsIn K mainGlobals "_law_char" = some (some (.ref f10))) (l10 : K.lookup f10 = some ⟨oc10, od10, .func (PySem.W.fnOf "_law_char" "_law_char" (defArgs s__law_char) (defBody s__law_char) (defScope s__law_char) .none kV10 dc10 pm10 an10 cd10 ct10), sl10⟩) (c10 : PySem.W.codeIn K cd10 "_law_char" = true) (k10 : PySem.W.keepIn K (.ref f10) = true)
    (a11 : PySem.W.nsIn K mainGlobals "_law_alike" = some (some (.ref f11))) (l11 : K.lookup f11 = some ⟨oc11, od11, .func (PySem.W.fnOf "_law_alike" "_law_alike" (defArgs s__law_alike) (defBody s__law_alike) (defScope s__law_alike) .none kV11 dc11 pm11 an11 cd11 ct11), sl11⟩) (c11 : PySem.W.codeIn K cd11 "_law_alike" = true) (k11 : PySem.W.keepIn K (.ref f11) = true)
    (a12 : PySem.W.nsIn K mainGlobals "_law_bytes" = some (some (.ref f12))) (l12 : K.lookup f12 = some ⟨oc12, od12, .func (PySem.W.fnOf "_law_bytes" "_law_bytes" (defArgs s__law_bytes) (defBody s__law_bytes) (defScope s__law_bytes) .none kV12 dc12 pm12 an12 cd12 ct12), sl12⟩) (c12 : PySem.W.codeIn K cd12 "_law_bytes" = true) (k12 : PySem.W.keepIn K (.ref f12) = true)
    (a13 : PySem.W.nsIn K mainGlobals "_law_due" = some (some (.ref f13))) (l13 : K.lookup f13 = some ⟨oc13, od13, .func (PySem.W.fnOf "_law_due" "_law_due" (defArgs s__law_due) (defBody s__law_due) (defScope s__law_due) .none kV13 dc13 pm13 an13 cd13 ct13), sl13⟩) (c13 : PySem.W.codeIn K cd13 "_law_due" = true) (k13 : PySem.W.keepIn K (.ref f13) = true)
    (a14 : PySem.W.nsIn K mainGlobals "law" = some (some (.ref f14))) (l14 : K.lookup f14 = some ⟨oc14, od14, .func (PySem.W.fnOf "law" "law" (defArgs s_law) (defBody s_law) (defScope s_law) .none kV14 dc14 pm14 an14 cd14 ct14), sl14⟩) (c14 : PySem.W.codeIn K cd14 "law" = true) (k14 : PySem.W.keepIn K (.ref f14) = true)
    (z_bool : PySem.W.nsIn K mainGlobals "bool" = some none)
    (z_int : PySem.W.nsIn K mainGlobals "int" = some none)
    (z_isinstance : PySem.W.nsIn K mainGlobals "isinstance" = some none)
    (z_len : PySem.W.nsIn K mainGlobals "len" = some none)
    (z_list : PySem.W.nsIn K mainGlobals "list" = some none)
    (z_ord : PySem.W.nsIn K mainGlobals "ord" = some none)
    (z_range : PySem.W.nsIn K mainGlobals "range" = some none)
    (z_str : PySem.W.nsIn K mainGlobals "str" = some none)
    (z_tuple : PySem.W.nsIn K mainGlobals "tuple" = some none)
    {cC_Scanner : Addr}
    (aC_Scanner : PySem.W.nsIn K mainGlobals "Scanner" = some (some (.ref cC_Scanner)))
    {ct_ESCAPES : Addr}
    (at_ESCAPES : PySem.W.nsIn K mainGlobals "ESCAPES" = some (some (.ref ct_ESCAPES)))
    {es_ESCAPES : Array DictEntry} {n_ESCAPES : Nat} (lt_ESCAPES : K.lookup ct_ESCAPES = some ⟨.type "dict", none, .dict es_ESCAPES n_ESCAPES, #[]⟩) (st_ESCAPES : (ct_ESCAPES == sysModules) = false)
    (vt_ESCAPES : Rows w.params es_ESCAPES.toList (v_ESCAPES (⟨ct_ESCAPES, cC_Scanner⟩ : Cs)))
    {ki_QUOTE : Tok} (ai_QUOTE : PySem.W.nsIn K mainGlobals "QUOTE" = some (some (.int 34 ki_QUOTE)))
    {ki_BACKSLASH : Tok} (ai_BACKSLASH : PySem.W.nsIn K mainGlobals "BACKSLASH" = some (some (.int 92 ki_BACKSLASH)))
    {ki_MOST_WORD : Tok} (ai_MOST_WORD : PySem.W.nsIn K mainGlobals "MOST_WORD" = some (some (.int 200 ki_MOST_WORD)))
    (pg_Scanner : PySem.W.plainGet K cC_Scanner Str.empty = true)
    (hd_Scanner : PySem.W.hasDictIn K cC_Scanner = true)
    (po_Scanner : PySem.W.plainOver K cC_Scanner = true)
    (sa_Scanner : PySem.W.findIn K (.ref cC_Scanner) "__setattr__" = some (some (.builtin "object.__setattr__")))
    (mk_Scanner : PySem.W.makesIn K cC_Scanner = true)
    (kc_Scanner : PySem.W.keepIn K (.ref cC_Scanner) = true)
    (na_Scanner_text : PySem.W.findIn K (.ref cC_Scanner) "text" = some none)
    (na_Scanner_at : PySem.W.findIn K (.ref cC_Scanner) "at" = some none)
    (na_Scanner_line_number : PySem.W.findIn K (.ref cC_Scanner) "line_number" = some none)
    (na_Scanner_line_start : PySem.W.findIn K (.ref cC_Scanner) "line_start" = some none)
    (am15 : PySem.W.findIn K (.ref cC_Scanner) "__init__" = some (some (.ref f15))) (im15 : PySem.W.isFn K (.ref f15) = true)
    (l15 : K.lookup f15 = some ⟨oc15, od15, .func (PySem.W.fnOf "__init__" "Scanner.__init__" (defArgs s_Scanner___init__) (defBody s_Scanner___init__) (defScope s_Scanner___init__) .none kV15 dc15 pm15 an15 cd15 ct15), sl15⟩) (c15 : PySem.W.codeIn K cd15 "Scanner.__init__" = true) (k15 : PySem.W.keepIn K (.ref f15) = true)
    (am16 : PySem.W.findIn K (.ref cC_Scanner) "position" = some (some (.ref f16))) (im16 : PySem.W.isFn K (.ref f16) = true)
    (l16 : K.lookup f16 = some ⟨oc16, od16, .func (PySem.W.fnOf "position" "Scanner.position" (defArgs s_Scanner_position) (defBody s_Scanner_position) (defScope s_Scanner_position) .none kV16 dc16 pm16 an16 cd16 ct16), sl16⟩) (c16 : PySem.W.codeIn K cd16 "Scanner.position" = true) (k16 : PySem.W.keepIn K (.ref f16) = true)
    (am17 : PySem.W.findIn K (.ref cC_Scanner) "ahead" = some (some (.ref f17))) (im17 : PySem.W.isFn K (.ref f17) = true)
    (l17 : K.lookup f17 = some ⟨oc17, od17, .func (PySem.W.fnOf "ahead" "Scanner.ahead" (defArgs s_Scanner_ahead) (defBody s_Scanner_ahead) (defScope s_Scanner_ahead) .none kV17 dc17 pm17 an17 cd17 ct17), sl17⟩) (c17 : PySem.W.codeIn K cd17 "Scanner.ahead" = true) (k17 : PySem.W.keepIn K (.ref f17) = true)
    (am18 : PySem.W.findIn K (.ref cC_Scanner) "skip" = some (some (.ref f18))) (im18 : PySem.W.isFn K (.ref f18) = true)
    (l18 : K.lookup f18 = some ⟨oc18, od18, .func (PySem.W.fnOf "skip" "Scanner.skip" (defArgs s_Scanner_skip) (defBody s_Scanner_skip) (defScope s_Scanner_skip) .none kV18 dc18 pm18 an18 cd18 ct18), sl18⟩) (c18 : PySem.W.codeIn K cd18 "Scanner.skip" = true) (k18 : PySem.W.keepIn K (.ref f18) = true)
    {kw_DIGITS : Tok} (aw_DIGITS : PySem.W.nsIn K mainGlobals "DIGITS" = some (some (.str ("0123456789abcdef" : Str) kw_DIGITS)))
    {kw_HEXADECIMAL : Tok} (aw_HEXADECIMAL : PySem.W.nsIn K mainGlobals "HEXADECIMAL" = some (some (.str ("0123456789abcdef" : Str) kw_HEXADECIMAL)))
    {kw_LOW_CHARACTERS : Tok} (aw_LOW_CHARACTERS : PySem.W.nsIn K mainGlobals "LOW_CHARACTERS" = some (some (.str (" !\"#$" : Str) kw_LOW_CHARACTERS)))
    {kw_HIGH_CHARACTERS : Tok} (aw_HIGH_CHARACTERS : PySem.W.nsIn K mainGlobals "HIGH_CHARACTERS" = some (some (.str ("&'()*+,-./0123456789:;<=>?@ABCDEFGHIJKLMNOPQRSTUVWXYZ[\\]^_`abcdefghijklmnopqrstuvwxyz{|}~" : Str) kw_HIGH_CHARACTERS)))
    {kw_BLANKS : Tok} (aw_BLANKS : PySem.W.nsIn K mainGlobals "BLANKS" = some (some (.str (" \t\n" : Str) kw_BLANKS)))
    {kw_NOT_IN_WORDS : Tok} (aw_NOT_IN_WORDS : PySem.W.nsIn K mainGlobals "NOT_IN_WORDS" = some (some (.str ("\"(),;[]{}" : Str) kw_NOT_IN_WORDS)))
    : ∃ fd : FuncData, (∀ (s : Shared) (v : Value), BindsTo s fd ⟨[v], []⟩ [("script", v)]) ∧ ∀ base : Heap, K.In base → base.Ns mainGlobals mg → FnOk l.prog w K mg base CX0 8 fa fd ["script"] (sp_lawK K) := by
  have e := hfa.symm.trans (PySem.W.mg_of X G a14)
  cases e
  have T : Tp w K mg (⟨ct_ESCAPES, cC_Scanner⟩ : Cs) := ⟨PySem.W.mg_none_of X G z_bool, PySem.W.mg_none_of X G z_int, PySem.W.mg_none_of X G z_isinstance, PySem.W.mg_none_of X G z_len, PySem.W.mg_none_of X G z_list, PySem.W.mg_none_of X G z_ord, PySem.W.mg_none_of X G z_range, PySem.W.mg_none_of X G z_str, PySem.W.mg_none_of X G z_tuple, PySem.W.mg_of X G at_ESCAPES, ⟨⟨_, _, lt_ESCAPES, st_ESCAPES, vt_ESCAPES⟩⟩, ⟨_, PySem.W.mg_of X G ai_QUOTE⟩, ⟨_, PySem.W.mg_of X G ai_BACKSLASH⟩, ⟨_, PySem.W.mg_of X G ai_MOST_WORD⟩, PySem.W.mg_of X G aC_Scanner, ⟨pg_Scanner, hd_Scanner, po_Scanner, sa_Scanner⟩, na_Scanner_text, na_Scanner_at, na_Scanner_line_number, na_Scanner_line_start, ⟨_, PySem.W.mg_of X G aw_DIGITS⟩, ⟨_, PySem.W.mg_of X G aw_HEXADECIMAL⟩, ⟨_, PySem.W.mg_of X G aw_LOW_CHARACTERS⟩, ⟨_, PySem.W.mg_of X G aw_HIGH_CHARACTERS⟩, ⟨_, PySem.W.mg_of X G aw_BLANKS⟩, ⟨_, PySem.W.mg_of X G aw_NOT_IN_WORDS⟩⟩
  have F0 := fun_mk (st := s_character_of) l0 c0 k0
  have D_character_of : Def K mg "character_of" s_character_of ["code"] := ⟨_, _, F0, PySem.W.mg_of X G a0, F0.binds (ps := ["code"]) fun _ _ _ _ _ _ us hl => match us, hl with | [_], _ => rfl⟩
  have F1 := fun_mk (st := s_print_byte) l1 c1 k1
  have D_print_byte : Def K mg "print_byte" s_print_byte ["byte"] := ⟨_, _, F1, PySem.W.mg_of X G a1, F1.binds (ps := ["byte"]) fun _ _ _ _ _ _ us hl => match us, hl with | [_], _ => rfl⟩
  have F2 := fun_mk (st := s_print_string) l2 c2 k2
  have D_print_string : Def K mg "print_string" s_print_string ["data"] := ⟨_, _, F2, PySem.W.mg_of X G a2, F2.binds (ps := ["data"]) fun _ _ _ _ _ _ us hl => match us, hl with | [_], _ => rfl⟩
  have F3 := fun_mk (st := s_digit_of) l3 c3 k3
  have D_digit_of : Def K mg "digit_of" s_digit_of ["character"] := ⟨_, _, F3, PySem.W.mg_of X G a3, F3.binds (ps := ["character"]) fun _ _ _ _ _ _ us hl => match us, hl with | [_], _ => rfl⟩
  have F4 := fun_mk (st := s_skip_blanks) l4 c4 k4
  have D_skip_blanks : Def K mg "skip_blanks" s_skip_blanks ["scanner"] := ⟨_, _, F4, PySem.W.mg_of X G a4, F4.binds (ps := ["scanner"]) fun _ _ _ _ _ _ us hl => match us, hl with | [_], _ => rfl⟩
  have F5 := fun_mk (st := s_check_in_string) l5 c5 k5
  have D_check_in_string : Def K mg "check_in_string" s_check_in_string ["scanner"] := ⟨_, _, F5, PySem.W.mg_of X G a5, F5.binds (ps := ["scanner"]) fun _ _ _ _ _ _ us hl => match us, hl with | [_], _ => rfl⟩
  have F6 := fun_mk (st := s_read_escape) l6 c6 k6
  have D_read_escape : Def K mg "read_escape" s_read_escape ["scanner"] := ⟨_, _, F6, PySem.W.mg_of X G a6, F6.binds (ps := ["scanner"]) fun _ _ _ _ _ _ us hl => match us, hl with | [_], _ => rfl⟩
  have F7 := fun_mk (st := s_read_string) l7 c7 k7
  have D_read_string : Def K mg "read_string" s_read_string ["scanner"] := ⟨_, _, F7, PySem.W.mg_of X G a7, F7.binds (ps := ["scanner"]) fun _ _ _ _ _ _ us hl => match us, hl with | [_], _ => rfl⟩
  have F8 := fun_mk (st := s_read_token) l8 c8 k8
  have D_read_token : Def K mg "read_token" s_read_token ["scanner"] := ⟨_, _, F8, PySem.W.mg_of X G a8, F8.binds (ps := ["scanner"]) fun _ _ _ _ _ _ us hl => match us, hl with | [_], _ => rfl⟩
  have F9 := fun_mk (st := s_tokens_of) l9 c9 k9
  have D_tokens_of : Def K mg "tokens_of" s_tokens_of ["text"] := ⟨_, _, F9, PySem.W.mg_of X G a9, F9.binds (ps := ["text"]) fun _ _ _ _ _ _ us hl => match us, hl with | [_], _ => rfl⟩
  have F10 := fun_mk (st := s__law_char) l10 c10 k10
  have D__law_char : Def K mg "_law_char" s__law_char ["number"] := ⟨_, _, F10, PySem.W.mg_of X G a10, F10.binds (ps := ["number"]) fun _ _ _ _ _ _ us hl => match us, hl with | [_], _ => rfl⟩
  have F11 := fun_mk (st := s__law_alike) l11 c11 k11
  have D__law_alike : Def K mg "_law_alike" s__law_alike ["actual", "due"] := ⟨_, _, F11, PySem.W.mg_of X G a11, F11.binds (ps := ["actual", "due"]) fun _ _ _ _ _ _ us hl => match us, hl with | [_, _], _ => rfl⟩
  have F12 := fun_mk (st := s__law_bytes) l12 c12 k12
  have D__law_bytes : Def K mg "_law_bytes" s__law_bytes ["script"] := ⟨_, _, F12, PySem.W.mg_of X G a12, F12.binds (ps := ["script"]) fun _ _ _ _ _ _ us hl => match us, hl with | [_], _ => rfl⟩
  have F13 := fun_mk (st := s__law_due) l13 c13 k13
  have D__law_due : Def K mg "_law_due" s__law_due ["data"] := ⟨_, _, F13, PySem.W.mg_of X G a13, F13.binds (ps := ["data"]) fun _ _ _ _ _ _ us hl => match us, hl with | [_], _ => rfl⟩
  have F14 := fun_mk (st := s_law) l14 c14 k14
  have F15 := fun_mk (st := s_Scanner___init__) l15 c15 k15
  have D_Scanner___init__ : DefI K (Cs.C_Scanner (⟨ct_ESCAPES, cC_Scanner⟩ : Cs)) "Scanner.__init__" s_Scanner___init__ ["self", "text"] := ⟨_, _, F15, ⟨mk_Scanner, am15, im15, kc_Scanner⟩, F15.binds (ps := ["self", "text"]) fun _ _ _ _ _ _ us hl => match us, hl with | [_, _], _ => rfl⟩
  have F16 := fun_mk (st := s_Scanner_position) l16 c16 k16
  have D_Scanner_position : DefM K (Cs.C_Scanner (⟨ct_ESCAPES, cC_Scanner⟩ : Cs)) "position" "Scanner.position" s_Scanner_position ["self"] := ⟨_, _, F16, ⟨am16, im16, k16⟩, F16.binds (ps := ["self"]) fun _ _ _ _ _ _ us hl => match us, hl with | [_], _ => rfl⟩
  have F17 := fun_mk (st := s_Scanner_ahead) l17 c17 k17
  have D_Scanner_ahead : DefM K (Cs.C_Scanner (⟨ct_ESCAPES, cC_Scanner⟩ : Cs)) "ahead" "Scanner.ahead" s_Scanner_ahead ["self", "count"] := ⟨_, _, F17, ⟨am17, im17, k17⟩, F17.binds (ps := ["self", "count"]) fun _ _ _ _ _ _ us hl => match us, hl with | [_, _], _ => rfl⟩
  have F18 := fun_mk (st := s_Scanner_skip) l18 c18 k18
  have D_Scanner_skip : DefM K (Cs.C_Scanner (⟨ct_ESCAPES, cC_Scanner⟩ : Cs)) "skip" "Scanner.skip" s_Scanner_skip ["self", "count"] := ⟨_, _, F18, ⟨am18, im18, k18⟩, F18.binds (ps := ["self", "count"]) fun _ _ _ _ _ _ us hl => match us, hl with | [_, _], _ => rfl⟩
  refine ⟨PySem.W.fnOf "law" "law" (defArgs s_law) (defBody s_law) (defScope s_law) .none kV14 dc14 pm14 an14 cd14 ct14, fun s v => .of_eq rfl, fun base _ _ => ?_⟩
  have C__law_bytes : Cal l.prog w K mg base CX0 1 "_law_bytes" (sp__law_bytes K (⟨ct_ESCAPES, cC_Scanner⟩ : Cs)) := c__law_bytes D__law_bytes T 
  have C__law_char : Cal l.prog w K mg base CX0 1 "_law_char" (sp__law_char K (⟨ct_ESCAPES, cC_Scanner⟩ : Cs)) := c__law_char D__law_char T 
  have C__law_due : Cal l.prog w K mg base CX0 2 "_law_due" (sp__law_due K (⟨ct_ESCAPES, cC_Scanner⟩ : Cs)) := c__law_due D__law_due T C__law_char
  have C_character_of : Cal l.prog w K mg base CX0 1 "character_of" (sp_character_of K (⟨ct_ESCAPES, cC_Scanner⟩ : Cs)) := c_character_of D_character_of T 
  have C_print_byte : Cal l.prog w K mg base CX0 2 "print_byte" (sp_print_byte K (⟨ct_ESCAPES, cC_Scanner⟩ : Cs)) := c_print_byte D_print_byte T C_character_of
  have C_print_string : Cal l.prog w K mg base CX0 3 "print_string" (sp_print_string K (⟨ct_ESCAPES, cC_Scanner⟩ : Cs)) := c_print_string D_print_string T C_print_byte
  have C_Scanner___init__ : CalI l.prog w K mg base CX0 (Cs.C_Scanner (⟨ct_ESCAPES, cC_Scanner⟩ : Cs)) 1 (sp_Scanner___init__ K (⟨ct_ESCAPES, cC_Scanner⟩ : Cs)) := c_Scanner___init__ D_Scanner___init__ T 
  have C_Scanner_ahead : CalM l.prog w K mg base CX0 (Cs.C_Scanner (⟨ct_ESCAPES, cC_Scanner⟩ : Cs)) 1 "ahead" (sp_Scanner_ahead K (⟨ct_ESCAPES, cC_Scanner⟩ : Cs)) := c_Scanner_ahead D_Scanner_ahead T 
  have C_Scanner_skip : CalM l.prog w K mg base CX0 (Cs.C_Scanner (⟨ct_ESCAPES, cC_Scanner⟩ : Cs)) 1 "skip" (sp_Scanner_skip K (⟨ct_ESCAPES, cC_Scanner⟩ : Cs)) := c_Scanner_skip D_Scanner_skip T 
  have C_skip_blanks : Cal l.prog w K mg base CX0 2 "skip_blanks" (sp_skip_blanks K (⟨ct_ESCAPES, cC_Scanner⟩ : Cs)) := c_skip_blanks D_skip_blanks T C_Scanner_ahead C_Scanner_skip
  have C_Scanner_position : CalM l.prog w K mg base CX0 (Cs.C_Scanner (⟨ct_ESCAPES, cC_Scanner⟩ : Cs)) 1 "position" (sp_Scanner_position K (⟨ct_ESCAPES, cC_Scanner⟩ : Cs)) := c_Scanner_position D_Scanner_position T 
  have C_check_in_string : Cal l.prog w K mg base CX0 3 "check_in_string" (sp_check_in_string K (⟨ct_ESCAPES, cC_Scanner⟩ : Cs)) := c_check_in_string D_check_in_string T C_Scanner_ahead C_Scanner_position
  have C_digit_of : Cal l.prog w K mg base CX0 1 "digit_of" (sp_digit_of K (⟨ct_ESCAPES, cC_Scanner⟩ : Cs)) := c_digit_of D_digit_of T 
  have C_read_escape : Cal l.prog w K mg base CX0 4 "read_escape" (sp_read_escape K (⟨ct_ESCAPES, cC_Scanner⟩ : Cs)) := c_read_escape D_read_escape T C_Scanner_position C_Scanner_skip C_check_in_string C_Scanner_ahead C_digit_of
  have C_read_string : Cal l.prog w K mg base CX0 5 "read_string" (sp_read_string K (⟨ct_ESCAPES, cC_Scanner⟩ : Cs)) := c_read_string D_read_string T C_Scanner_skip C_check_in_string C_Scanner_ahead C_read_escape
  have C_read_token : Cal l.prog w K mg base CX0 6 "read_token" (sp_read_token K (⟨ct_ESCAPES, cC_Scanner⟩ : Cs)) := c_read_token D_read_token T C_Scanner_ahead C_Scanner_position C_Scanner_skip C_read_string
  have C_tokens_of : Cal l.prog w K mg base CX0 7 "tokens_of" (sp_tokens_of K (⟨ct_ESCAPES, cC_Scanner⟩ : Cs)) := c_tokens_of D_tokens_of T C_Scanner___init__ C_skip_blanks C_Scanner_position C_read_token
  have C__law_alike : Cal l.prog w K mg base CX0 5 "_law_alike" (sp__law_alike K (⟨ct_ESCAPES, cC_Scanner⟩ : Cs) 3) := c__law_alike D__law_alike T  3
  exact c_law F14 T C__law_bytes C__law_due C_print_string C_tokens_of C__law_alike
theorem walk {l : PySem.W.OpenLaw} {q : Program} {loose : List Str} {XP : (Str → Option Value) → Heap → Prop} {YP : World → Heap → Prop} {d : DefRec} {K : Params → PySem.W.Frag} (hn : l.most = some 63) (hdf : d.params.defaults = [])
    (hY : ∀ (w : World) (h : Heap), YP w h → (K w.params).In h)
    (F : ∀ (w : World) (mg : Str → Option Value) (fa : Addr) (h : Heap), (K w.params).In h → h.Ns mainGlobals mg → mg d.name = some (.ref fa) →
      ∃ fd : FuncData, (∀ (s : Shared) (u : Value), BindsTo s fd ⟨[u], []⟩ [("script", u)]) ∧ ∀ base : Heap, (K w.params).In base → base.Ns mainGlobals mg → FnOk l.prog w (K w.params) mg base CX0 8 fa fd ["script"] (sp_lawK (K w.params))) :
    PySem.W.WalkO q loose XP YP l.row.toRowW d [] (fun f vs => PySem.call f vs) :=
  L2.walk_of (n := 63) (k := 8) (x := "script") (CX := fun _ => CX0) (sp := fun w => sp_lawK (K w.params)) hn (by decide) hdf ⟨rfl, by decide, by decide⟩ hY F (fun _ _ a ns hl _ hS => ⟨a, ns, rfl, hS, hl, fun _ => rfl⟩) fun _ _ _ _ _ z => z
end V
open PySem PySem.W PyProof.Rows
set_option maxRecDepth 100000 in
set_option maxHeartbeats 0 in
theorem PySem.Challenge.cw_wasmhost_k23_strings_come_back_holds : PySem.Challenge.rw_wasmhost_k23_strings_come_back.Holds := by
  w_on; o_law; k_head; (case hw => w_witness2)
  k_fill
  refine V.walk (l := PySem.Challenge.rw_wasmhost_k23_strings_come_back) rfl rfl (fun w h Y => PySem.W.kIn_of Y) ?F
  case F =>
    intro w mg fa h KX G hmg
    refine' V.all_mk KX G hmg ?a0 ?l0 ?c0 ?k0 ?a1 ?l1 ?c1 ?k1 ?a2 ?l2 ?c2 ?k2 ?a3 ?l3 ?c3 ?k3 ?a4 ?l4 ?c4 ?k4 ?a5 ?l5 ?c5 ?k5 ?a6 ?l6 ?c6 ?k6 ?a7 ?l7 ?c7 ?k7 ?a8 ?l8 ?c8 ?k8 ?a9 ?l9 ?c9 ?k9 ?a10 ?l10 ?c10 ?k10 ?a11 ?l11 ?c11 ?k11 ?a12 ?l12 ?c12 ?k12 ?a13 ?l13 ?c13 ?k13 ?a14 ?l14 ?c14 ?k14 ?z_bool ?z_int ?z_isinstance ?z_len ?z_list ?z_ord ?z_range ?z_str ?z_tuple ?aC_Scanner ?at_ESCAPES ?lt_ESCAPES ?st_ESCAPES ?vt_ESCAPES ?ai_QUOTE ?ai_BACKSLASH ?ai_MOST_WORD ?pg_Scanner ?hd_Scanner ?po_Scanner ?sa_Scanner ?mk_Scanner ?kc_Scanner ?na_Scanner_text ?na_Scanner_at ?na_Scanner_line_number ?na_Scanner_line_start ?am15 ?im15 ?l15 ?c15 ?k15 ?am16 ?im16 ?l16 ?c16 ?k16 ?am17 ?im17 ?l17 ?c17 ?k17 ?am18 ?im18 ?l18 ?c18 ?k18 ?aw_DIGITS ?aw_HEXADECIMAL ?aw_LOW_CHARACTERS ?aw_HIGH_CHARACTERS ?aw_BLANKS ?aw_NOT_IN_WORDS
    (case a0 => k_is)
    (case l0 => k_is)
    (case c0 => k_is)
    (case k0 => k_is)
    (case a1 => k_is)
    (case l1 => k_is)
    (case c1 => k_is)
    (case k1 => k_is)
    (case a2 => k_is)
    (case l2 => k_is)
    (case c2 => k_is)
    (case k2 => k_is)
    (case a3 => k_is)
    (case l3 => k_is)
    (case c3 => k_is)
    (case k3 => k_is)
    (case a4 => k_is)
    (case l4 => k_is)
    (case c4 => k_is)
    (case k4 => k_is)
    (case a5 => k_is)
    (case l5 => k_is)
    (case c5 => k_is)
    (case k5 => k_is)
    (case a6 => k_is)
    (case l6 => k_is)
    (case c6 => k_is)
    (case k6 => k_is)
    (case a7 => k_is)
    (case l7 => k_is)
    (case c7 => k_is)
    (case k7 => k_is)
    (case a8 => k_is)
    (case l8 => k_is)
    (case c8 => k_is)
    (case k8 => k_is)
    (case a9 => k_is)
    (case l9 => k_is)
    (case c9 => k_is)
    (case k9 => k_is)
    (case a10 => k_is)
    (case l10 => k_is)
    (case c10 => k_is)
    (case k10 => k_is)
    (case a11 => k_is)
    (case l11 => k_is)
    (case c11 => k_is)
    (case k11 => k_is)
    (case a12 => k_is)
    (case l12 => k_is)
    (case c12 => k_is)
    (case k12 => k_is)
    (case a13 => k_is)
    (case l13 => k_is)
    (case c13 => k_is)
    (case k13 => k_is)
    (case a14 => k_is)
    (case l14 => k_is)
    (case c14 => k_is)
    (case k14 => k_is)
    (case z_bool => k_is)
    (case z_int => k_is)
    (case z_isinstance => k_is)
    (case z_len => k_is)
    (case z_list => k_is)
    (case z_ord => k_is)
    (case z_range => k_is)
    (case z_str => k_is)
    (case z_tuple => k_is)
    (case aC_Scanner => k_is)
    (case at_ESCAPES => k_is)
    (case lt_ESCAPES => k_is)
    (case st_ESCAPES => first | rfl | decide)
    (case vt_ESCAPES => repeat (first | exact True.intro | refine And.intro ⟨_, rfl⟩ (And.intro rfl (And.intro (by first | exact rfl | exact ⟨_, rfl⟩) ?_))))
    (case ai_QUOTE => k_is)
    (case ai_BACKSLASH => k_is)
    (case ai_MOST_WORD => k_is)
    (case pg_Scanner => k_is)
    (case hd_Scanner => k_is)
    (case po_Scanner => k_is)
    (case sa_Scanner => k_is)
    (case mk_Scanner => k_is)
    (case kc_Scanner => k_is)
    (case na_Scanner_text => k_is)
    (case na_Scanner_at => k_is)
    (case na_Scanner_line_number => k_is)
    (case na_Scanner_line_start => k_is)
    (case am15 => k_is)
    (case im15 => k_is)
    (case l15 => k_is)
    (case c15 => k_is)
    (case k15 => k_is)
    (case am16 => k_is)
    (case im16 => k_is)
    (case l16 => k_is)
    (case c16 => k_is)
    (case k16 => k_is)
    (case am17 => k_is)
    (case im17 => k_is)
    (case l17 => k_is)
    (case c17 => k_is)
    (case k17 => k_is)
    (case am18 => k_is)
    (case im18 => k_is)
    (case l18 => k_is)
    (case c18 => k_is)
    (case k18 => k_is)
    (case aw_DIGITS => k_is)
    (case aw_HEXADECIMAL => k_is)
    (case aw_LOW_CHARACTERS => k_is)
    (case aw_HIGH_CHARACTERS => k_is)
    (case aw_BLANKS => k_is)
    (case aw_NOT_IN_WORDS => k_is)
#print axioms PySem.Challenge.cw_wasmhost_k23_strings_come_back_holds



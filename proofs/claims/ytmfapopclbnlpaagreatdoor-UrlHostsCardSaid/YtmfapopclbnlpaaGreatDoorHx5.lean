import Derived.Deep.AppendSrc
import Derived.Deep.Upon
import Derived.Lib.ConvBytes
import Derived.Laws.BytesString
import Derived.Orders
import Derived.IntWalk
import Derived.Test.YtmfapopclbnlpaaGreatDoorHx4
set_option linter.unusedVariables false
set_option linter.unusedSectionVars false
set_option linter.unusedSimpArgs false
namespace Go.Vc
open Go.RowKit
section
variable {P:Program} {cx:Cx} {G:Gh} {lh:List (Nat×PV)} {w:World}
mutual
theorem jI {f g:PV->PV}(hf:∀y:PV,y.leaf=true->(f y).leaf=true):∀x:PV,(x.cC f).cC g=x.cC fun y=>g (f y)
 |.agg l=>by simp only [PV.cC,iM hf l]
 |.tup l=>by simp only [PV.cC,iM hf l]
 |.fn h a b=>by simp only [PV.cC,iM hf a,iM hf b]
 |.undef=>PV.cS (hf _ rfl)
 |.int k z=>PV.cS (hf _ rfl)
 |.bool b=>PV.cS (hf _ rfl)
 |.str l=>PV.cS (hf _ rfl)
 |.raw u=>PV.cS (hf _ rfl)
 |.arr n r=>PV.cS (hf _ rfl)
 |.row nl r t=>PV.cS (hf _ rfl)
 |.vec nl sz l t=>PV.cS (hf _ rfl)
 |.ep r t i=>PV.cS (hf _ rfl)
 |.epv sz l t i off=>PV.cS (hf _ rfl)
 |.ptr n off=>PV.cS (hf _ rfl)
 |.pix n off i=>PV.cS (hf _ rfl)
 |.asl n off lo len=>PV.cS (hf _ rfl)
 |.gp g off=>PV.cS (hf _ rfl)
 |.gix g off i=>PV.cS (hf _ rfl)
theorem iM {f g:PV->PV}(hf:∀y:PV,y.leaf=true->(f y).leaf=true):∀l:List PV,PV.bh g (PV.bh f l)=PV.bh (fun y=>g (f y)) l
 |[]=>rfl
 |x::l=>by simp only [PV.bh,jI hf x,iM hf l]
end
theorem fJ(f:Nat->Option Nat)(y:PV)(h:y.leaf=true):(y.aO f).leaf=true:=by
 cases y with
 |row nl r t=>show PV.leaf (match f t with |some u=>.row nl r u|none=>.undef)=true;cases f t<;>rfl
 |vec nl sz l t=>show PV.leaf (match f t with |some u=>.vec nl sz l u|none=>.undef)=true;cases f t<;>rfl
 |ep r t i=>show PV.leaf (match f t with |some u=>.ep r u i|none=>.undef)=true;cases f t<;>rfl
 |epv sz l t i off=>show PV.leaf (match f t with |some u=>.epv sz l u i off|none=>.undef)=true;cases f t<;>rfl
 |_=>first|rfl|exact h
theorem CD {f g:PV->PV}(hf:∀y:PV,y.leaf=true->(f y).leaf=true)(lh:List (Nat×PV)):cT g (cT f lh)=cT (fun y=>g (f y)) lh:=by
 unfold cT;rw [List.map_map];refine List.map_congr_left fun e _=>?_;show(e.1,(e.2.cC f).cC g)=_;rw [jI hf]
theorem zu(n lo hi:Nat):Jg n lo hi=fun y=>(y.aO (ig lo hi)).jy n:=by
 funext y
 cases y<;>rfl
structure dI(cx:Cx)(G:Gh)(w:World)(f:Option (PV->PV))(lh':List (Nat×PV))(G':Gh)(w':World):Prop where
 inv:Inv cx G' lh' w'
 rep:∀y v,aN y G w v->aN (match f with |none=>y|some f=>y.cC f) G' w' v
 le:gm G.F G'.F
theorem dI.refl(h:Inv cx G lh w):dI cx G w none lh G w:=⟨h,fun _ _ h=>h,gm.refl _⟩
theorem Inv.ij(h:Inv cx G lh w)(f:Nat->Option Nat)(n:Option (Nat×Nat)):gm G.F (G.turn w f n).F:=by
 classical
 intro b o u hu;show(if rm G f b then w.cell? ⟨b,o,none⟩else G.F b o)=some u
 split
 ·rename_i hs
  obtain ⟨t,t0,ft,ht⟩:=hs;rw [(h.mark t b ht).2.2.1]at hu;cases hu
 ·exact hu
theorem CE(lo hi:Nat):rS (ig lo hi):=by
 refine ⟨by unfold ig;cases (Nat.ble lo 0&&Nat.blt 0 hi)<;>rfl,fun t _=>.inr ?_⟩
 unfold ig;cases (Nat.ble lo t&&Nat.blt t hi)with
 |true=>exact .inl rfl
 |false=>exact .inr rfl
theorem jJ(t:Nat):rS (cH t):=by
 refine ⟨by unfold cH;cases (Nat.beq 0 t)<;>rfl,fun u _=>.inr ?_⟩
 unfold cH;cases (Nat.beq u t)with
 |true=>exact .inl rfl
 |false=>exact .inr rfl
theorem Jp {t:Nat}(ht:t≠0):rS (ng t):=by
 refine ⟨?_,fun u _=>?_⟩
 ·unfold ng
  have:Nat.beq 0 t=false:=by rw [Bool.eq_false_iff];exact fun hh=>ht (Nat.eq_of_beq_eq_true hh).symm
  rw [this];rfl
 ·unfold ng
  cases (Nat.beq u t)with
  |true=>exact .inl rfl
  |false=>exact .inr (.inr rfl)
theorem CF(e:TypeId)(z:Value)(w:World):(newVar e z).run P w=.ok ⟨w.heap.size,0,none⟩ (w.alloc (.cells z.cells e)):=rfl
theorem jK {d:Option Tmp}{n:Nat}(h:nameOf d=some n):32<=n:=by
 unfold nameOf at h;rw [Option.map_eq_some_iff]at h;obtain ⟨q,-,rfl⟩:=h;omega
theorem Jq {e:TypeId}{d:Option Tmp}{v:PV}{f:Option (PV->PV)}{lh':List (Nat×PV)}(hi:Inv cx G lh w)(hm:cx.m<=32)(h:oM P e d lh=.ok v f lh'):
 ∃u G' w',(Instr.alloc e true (.tuple #[])).run P w=.ok u w'/\dI cx G w f lh' G' w'/\aN v G' w' u:=by
 unfold oM at h;split at h
 ·rename_i n hn
  split at h
  ·rename_i hz
   unfold Mj at h;injection h with h1 h2 h3
   subst h1;subst h2;subst h3;have hn':cx.m<=n:=Nat.le_trans hm (jK hn);obtain ⟨i,z,hi1,hz1,fz,-,-⟩:=nx hz;obtain ⟨t1,t2⟩:=hi.turn (w':=w) (f:=ig (fR n) (fR (n+1))) (CE _ _) none rfl rfl rfl (Nat.le_refl _) (fun _ _ _=>rfl) (fun t b e=>by cases e);obtain ⟨s1,s2⟩:=t1.Jk (w':=w.alloc (.cells z.cells e)) (n:=n) hn' (u:=z) (e:=e) rfl rfl rfl rfl (fz _ _).rep (fz ⟨fun _=>none,fun _=>none,fun _ _=>none⟩ w).wid (fz ⟨fun _=>none,fun _=>none,fun _ _=>none⟩ w).flat;refine ⟨.pointer (some ⟨w.heap.size,0,none⟩),⟨fun k=>if k=n then some w.heap.size else(G.turn w (ig (fR n) (fR (n+1))) none).σ k,(G.turn w (ig (fR n) (fR (n+1))) none).τ,(G.turn w (ig (fR n) (fR (n+1))) none).F⟩,w.alloc (.cells z.cells e),?_,⟨?_,fun y v hv=>?_,hi.ij (ig (fR n) (fR (n+1))) none⟩,?_⟩
   ·unfold Instr.alloc zeroValue typeInfo
    simp only [Sem.run_bind,run_program,Result.andThen_ok,hi1,hz1,Sem.run_pure,CF]
   ·rw [CD (fJ _)]at s1
    rw [zu];exact s1
   ·have:=s2 _ _ (t2 y v hv)
    rw [jI (fJ _)]at this;show aN (y.cC (Jg n _ _)) _ _ v;rw [zu];exact this
   ·exact ⟨w.heap.size,by simp,rfl⟩
  ·cases h
 ·cases h
theorem GA(t:TypeId)(tok:Nat)(x:PV):(typed P t tok x).wid=x.wid:=by
 unfold typed;split
 ·split
  ·unfold gL;split<;>rfl
  ·rfl
 ·rfl
theorem OT {e:TypeId}{x:PV}{d:Option Tmp}{v:PV}{f:Option (PV->PV)}{lh':List (Nat×PV)}{a:Value}(hi:Inv cx G lh w)(hm:cx.m<=32)(h:Gl P e x d lh=.ok v f lh')(ha:aN x G w a):
 ∃u G' w',(Instr.box e a).run P w=.ok u w'/\dI cx G w f lh' G' w'/\aN v G' w' u:=by
 unfold Gl at h;split at h
 ·rename_i n hn
  split at h
  ·rename_i hc hw
   rw [Bool.and_eq_true]at hc;unfold Mj at h;injection h with h1 h2 h3
   subst h1;subst h2;subst h3;have hn':cx.m<=n:=Nat.le_trans hm (jK hn);have fx:=Full.fit ha hc.2;have hb:Below w.heap.size w (w.alloc (.cells a.cells e)):=(Below.refl _ w).alloc (Nat.le_refl _) _;have key:aN (typed P e 0 (x.cC (PV.jy n))) ⟨fun k=>if k=n then some w.heap.size else G.σ k,G.τ,G.F⟩ (w.alloc (.cells a.cells e)) a:=
    eA (aN.map (f:=PV.jy n) (G:=G) (w:=w) (G':=⟨fun k=>if k=n then some w.heap.size else G.σ k,G.τ,G.F⟩) (w':=w.alloc (.cells a.cells e)) (fun y v hl hy=>aN.vd (G:=G) (w:=w) (G':=⟨fun k=>if k=n then some w.heap.size else G.σ k,G.τ,G.F⟩) (w':=w.alloc (.cells a.cells e)) (gm.refl _) (fun k b hk hb=>by
     show(if k=n then some w.heap.size else G.σ k)=some b
     rw [if_neg hk];exact hb) (fun t b ht=>⟨ht,hb.block b (hi.mark t b ht).2.1⟩) hl hy) (np n) ha)
   obtain ⟨s1,s2⟩:=hi.Jk (w':=w.alloc (.cells a.cells e)) (n:=n) hn' (u:=a) (e:=e) rfl rfl rfl rfl key (by rw [GA,PV.gE (np n)];exact fx.wid) fx.flat;exact ⟨_,_,_,rfl,⟨s1,s2,gm.refl _⟩,w.heap.size,by simp,rfl⟩
  ·cases h
 ·cases h
theorem gG:∀(vs:List Value) (o:Nat) (w:World) (b:Nat) (cs:Array Value) (e:TypeId) (fz:Nat×Nat),w.heap[b]?=some (.cells cs e fz)->(w.setCells b o vs).heap[b]?=some (.cells (ky cs o vs) e fz)
 |[],o,w,b,cs,e,fz,h=>h
 |v::vs,o,w,b,cs,e,fz,h=>by
  rw [World.setCells,ky];refine gG vs (o+1) _ b _ e fz ?_;simp only [World.setCell,Array.getElem?_modify,h];simp
theorem setCells_size:∀(vs:List Value) (o:Nat) (w:World) (b:Nat),(w.setCells b o vs).heap.size=w.heap.size
 |[],o,w,b=>rfl
 |v::vs,o,w,b=>by rw [World.setCells,setCells_size vs];simp [World.setCell]
theorem gH:∀(vs:List Value) (o:Nat) (w:World) (b:Nat),(w.setCells b o vs).tape=w.tape
 |[],o,w,b=>rfl
 |v::vs,o,w,b=>by rw [World.setCells,gH vs];rfl
theorem jL(vs:List Value)(cs:Array Value)(o:Nat)(h:o+vs.length<=cs.size):(ky cs o vs).size=cs.size:=by
 rw [<-Array.length_toList,gu vs cs o h,Gv (by simpa using h)];simp
theorem iN(w:World)(b o:Nat)(vs:List Value)(k:Nat)(hk:k≠b):(w.setCells b o vs).heap[k]?=w.heap[k]?:=by
 by_cases h:k<w.heap.size
 ·exact World.heap_setCells_other w b o vs h hk
 ·rw [Array.getElem?_eq_none (by rw [setCells_size];omega),Array.getElem?_eq_none (by omega)]
theorem oS {b off:Nat}{xs:Array Value}{e:TypeId}{fz:Nat×Nat}{vs:List Value}(h1:w.heap[b]?=some (.cells xs e fz))(h2:Clear fz xs.size)(h3:off+vs.length<=xs.size)(h4:∀v∈vs,ez v=true):
 (storeCells ⟨b,off,none⟩ vs).run P w=.ok () (w.setCells b off vs):=by
 have:=run_storeCells_cells (P:=P) b off vs 0 w (fun j hj=>by
  unfold World.cell?;rw [h1];show(xs[off+0+j]?).isSome=true;rw [Array.getElem?_eq_getElem (by omega)];rfl) (fun j hj=>by
  unfold World.frozen?;rw [h1];have:=h2 (off+0+j) (by omega);simp only [Bool.and_eq_false_iff,decide_eq_false_iff_not];omega) h4
 simpa using this
theorem written {n b off:Nat}{c c':PV}{u u':Value}{e:TypeId}{fz:Nat×Nat}{vs:List Value}(hi:Inv cx G lh w)(hc:b6 n lh=some c)(hb:G.σ n=some b)(h3:w.heap[b]?=some (.cells u.cells e fz))(h4:Clear fz u.cells.size)
 (f:Full c' G w u')(hov:u'.cells.toList=eI u.cells.toList off vs)(hle:off+vs.length<=u.cells.size):dI cx G w none (iI n c' lh) G (w.setCells b off vs):=by
 have hA:ky u.cells off vs=u'.cells:=by
  apply Array.ext';rw [gu _ _ _ hle,hov]
 have hs:u'.cells.size=u.cells.size:=by rw [<-hA,jL _ _ _ hle]
 obtain ⟨s1,s2⟩:=hi.store (w':=w.setCells b off vs) (n:=n) (b:=b) (c:=c) (c':=c') (u':=u') (e:=e) (fz:=fz) hc hb (World.os_setCells ..) (gH ..) (World.output_setCells ..) (setCells_size ..)
  (fun k hk=>iN w b off vs k hk) (by rw [gG vs off w b _ e fz h3,hA]) (by rw [hs];exact h4) f.rep f.wid f.flat
 exact ⟨s1,s2,gm.refl _⟩
mutual
theorem vm {r q:al}{v:Value}{i m:Nat}(hq:q.aM=r.aM.set i v)(hf:ez v=true)(him:i<r.aM.length):∀{x x':PV} {off:Nat} {u:Value},Full x G w u->x.cv off=some (m,r)->x.oJ q off=some x'->
 ∃u',Full x' G w u'/\u'.cells.toList=eI u.cells.toList (off+i) [v]/\off+i+1<=u.cells.size
 |.agg l,x',off,u,hx,h,hp=>by
  unfold PV.cv at h;unfold PV.oJ at hp;rw [Option.map_eq_some_iff]at hp;obtain ⟨l',h1,rfl⟩:=hp;obtain ⟨us,g1,rfl⟩:=hx.rep;obtain ⟨us',k1,k2,k3⟩:=r8 hq hf him g1 h h1;exact ⟨_,Full.agg ⟨us',k1,rfl⟩,by simpa [Value.cells]using k2,by simpa [Value.cells]using k3⟩
 |.arr n s,x',off,u,hx,h,hp=>by
  unfold PV.cv at h;unfold PV.oJ at hp;split at h
  ·rename_i hb
   rw [hb]at hp;have:=Nat.eq_of_beq_eq_true hb;subst this;injection h with h;injection h with e1 e2;subst e1;subst e2
   replace hp:some (PV.arr n q)=some x':=hp;injection hp with hp;subst hp
   obtain ⟨g1,rfl⟩:=hx.rep;refine ⟨.agg q.aM.toArray,Full.of ⟨by rw [hq,List.length_set,g1],rfl⟩ (fun _ e=>by cases e) (fun e=>by cases e),?_,by simp [Value.cells];omega⟩;simp only [Value.cells,Nat.zero_add];rw [hq,nw him]
  ·cases h
 |.undef,x',off,u,hx,h,hp=>by unfold PV.cv at h;cases h
 |.int k z,x',off,u,hx,h,hp=>by unfold PV.cv at h;cases h
 |.bool b,x',off,u,hx,h,hp=>by unfold PV.cv at h;cases h
 |.str l,x',off,u,hx,h,hp=>by unfold PV.cv at h;cases h
 |.raw z,x',off,u,hx,h,hp=>by unfold PV.cv at h;cases h
 |.tup l,x',off,u,hx,h,hp=>by unfold PV.cv at h;cases h
 |.row nl z t,x',off,u,hx,h,hp=>by unfold PV.cv at h;cases h
 |.vec nl sz l t,x',off,u,hx,h,hp=>by unfold PV.cv at h;cases h
 |.ep z t j,x',off,u,hx,h,hp=>by unfold PV.cv at h;cases h
 |.epv sz l t j o,x',off,u,hx,h,hp=>by unfold PV.cv at h;cases h
 |.ptr a o,x',off,u,hx,h,hp=>by unfold PV.cv at h;cases h
 |.pix a o j,x',off,u,hx,h,hp=>by unfold PV.cv at h;cases h
 |.asl a o lo len,x',off,u,hx,h,hp=>by unfold PV.cv at h;cases h
 |.gp g o,x',off,u,hx,h,hp=>by unfold PV.cv at h;cases h
 |.gix g o j,x',off,u,hx,h,hp=>by unfold PV.cv at h;cases h
 |.fn f a b,x',off,u,hx,h,hp=>by unfold PV.cv at h;cases h
theorem r8 {r q:al}{v:Value}{i m:Nat}(hq:q.aM=r.aM.set i v)(hf:ez v=true)(him:i<r.aM.length):∀{l l':List PV} {off:Nat} {us:List Value},gj l G w us->PV.kD l off=some (m,r)->PV.ni q l off=some l'->
 ∃us',gj l' G w us'/\(us'.flatMap fun u=>u.cells.toList)=eI (us.flatMap fun u=>u.cells.toList) (off+i) [v]/\off+i+1<=(us.flatMap fun u=>u.cells.toList).length
 |[],l',off,us,hx,h,hp=>by unfold PV.kD at h;cases h
 |x::l,l',off,us,hx,h,hp=>by
  obtain ⟨u,us',rfl,h1,h2,h3,h4⟩:=hx;unfold PV.kD at h;unfold PV.ni at hp;split at h
  ·rename_i hb
   rw [hb]at hp;replace hp:(PV.oJ q x off).map (· ::l)=some l':=hp;rw [Option.map_eq_some_iff]at hp;obtain ⟨x',k1,rfl⟩:=hp;obtain ⟨u',q1,q2,q3⟩:=vm hq hf him ⟨h1,h2,h3⟩ h k1;refine ⟨u'::us',⟨u',us',rfl,q1.rep,q1.wid,q1.flat,h4⟩,?_,by simp;omega⟩;rw [List.flatMap_cons,List.flatMap_cons,mo (by simp;omega),q2]
  ·rename_i hb
   rw [hb]at hp;replace hp:(PV.ni q l (off-PV.wid x)).map (x::·)=some l':=hp;have hge:x.wid<=off:=by
    rcases Nat.lt_or_ge off x.wid with h|h
    ·rw [show Nat.blt off x.wid=true by simpa using h]at hb;cases hb
    ·exact h
   rw [Option.map_eq_some_iff]at hp;obtain ⟨l1,k1,rfl⟩:=hp;obtain ⟨us1,q1,q2,q3⟩:=r8 hq hf him h4 h k1;refine ⟨u::us1,⟨u,us1,rfl,h1,h2,h3,q1⟩,?_,by simp at q3⊢;omega⟩;rw [List.flatMap_cons,List.flatMap_cons,qg (by simp;omega),q2];simp only [Array.length_toList,h2];congr 2;omega
end
theorem zw {r r':al}{z:Int}{y:PV}{v:Value}(h:r.set z y=some r')(hv:aN y G w v):ez v=true:=by
 unfold al.set at h;split at h
 ·rw [show v=_ from hv];rfl
 ·rw [show v=_ from hv];rfl
 ·rw [show v=_ from hv];rfl
 ·cases h
theorem oT {l:List Value}(hl:∀u∈l,ez u=true):(l.flatMap fun u=>u.cells.toList)=l:=by
 induction l with
 |nil=>rfl
 |cons u l ih=>rw [List.flatMap_cons,ih (fun v hv=>hl v (List.mem_cons_of_mem _ hv)),cells_one (hl u (List.mem_cons_self ..))];rfl
theorem vn(r:al)(i:Int)(x:PV)(k:al->PV)(hk:∀r,(k r).wid=1):(setOf r i x k).wid=1:=by
 unfold setOf;split
 ·exact hk _
 ·rfl
theorem zx(t:Nat)(i:Int)(x y:PV)(hl:y.leaf=true):(qd t i x y).wid=y.wid:=by
 cases y with
 |row nl r u=>show PV.wid (bif Nat.beq u t then setOf r i x (fun r'=>.row nl r' u)else .row nl r u)=_;cases Nat.beq u t<;>first|rfl|exact vn _ _ _ _ fun _=>rfl
 |ep r u j=>show PV.wid (bif Nat.beq u t then setOf r i x (fun r'=>.ep r' u j)else .ep r u j)=_;cases Nat.beq u t<;>first|rfl|exact vn _ _ _ _ fun _=>rfl
 |vec nl sz l u=>show PV.wid (bif Nat.beq u t then .undef else .vec nl sz l u)=_;cases Nat.beq u t<;>rfl
 |epv sz l u j off=>show PV.wid (bif Nat.beq u t then .undef else .epv sz l u j off)=_;cases Nat.beq u t<;>rfl
 |_=>first|rfl|cases hl
theorem At.laid {w':World}{t i b o cap:Nat}{cs:List Value}{v:Value}{xs:Array Value}{e:TypeId}{fz:Nat×Nat}(hb:G.τ t=some b)(h6:w.heap[b]?=some (.cells xs e fz))(h7:w'.heap[b]?=some (.cells (ky xs i [v]) e fz))(hi:i<xs.size)
 (ht:t≠0)(h:At G w t 1 b o cap cs):At G w' t 1 b o cap (cs.set i v):=by
 rcases h with⟨h1,-⟩|⟨h1,h2,h3,xs',e',fz',h4,⟨h0,h5⟩,h5'⟩
 ·exact absurd h1 ht
 ·rw [h6]at h4;injection h4 with h4;injection h4 with e1 e2 e3;subst e1;subst e2;subst e3
  have hs:(ky xs i [v]).size=xs.size:=jL _ _ _ (by simp;omega);refine .inr ⟨h1,h2,fun j c hj=>?_,_,_,_,h7,⟨h0,by rw [hs];exact h5⟩,by rw [hs];exact h5'⟩;subst h0;unfold World.cell?;rw [h7];show(ky xs i [v])[0+j]?=some c;rw [<-Array.getElem?_toList,gu _ _ _ (by simp;omega),Nat.zero_add];have hset:eI xs.toList i [v]=xs.toList.set i v:=(nw (by simpa using hi)).symm;rw [hset,List.getElem?_set];rw [List.getElem?_set]at hj;have old:∀c,cs[j]?=some c->xs.toList[j]?=some c:=fun c hc=>by
   have:=h3 j c hc;unfold World.cell? at this;rw [h6]at this;have h5:xs[0+j]?=some c:=this;rw [Nat.zero_add]at h5;rw [Array.getElem?_toList];exact h5
  split
  ·rename_i hij
   rw [if_pos hij]at hj;split at hj
   ·rw [if_pos (by simpa using hi)];exact hj
   ·cases hj
  ·rename_i hij
   rw [if_neg hij]at hj;exact old c hj
theorem Mn {w':World}{t b:Nat}{z:Int}{x:PV}{v:Value}{xs:Array Value}{e:TypeId}{fz:Nat×Nat}(hi:Inv cx G lh w)(hb:G.τ t=some b)(h6:w.heap[b]?=some (.cells xs e fz))(h7:w'.heap[b]?=some (.cells (ky xs z.toNat [v]) e fz))(hz:z.toNat<xs.size)
 (h1:w'.os=w.os)(h2:w'.tape=w.tape)(h3:w'.output=w.output)(h4:w'.heap.size=w.heap.size)(h5:∀k,k≠b->w'.heap[k]?=w.heap[k]?)(ho:QL x)(hx:aN x G w v):
 dI cx G w (some (qd t z x)) (cT (qd t z x) lh) G w':=by
 obtain ⟨ht,hlt,hF0,hown⟩:=hi.mark t b hb;have aM:∀{r r':al},r.set z x=some r'->r'.aM=r.aM.set z.toNat v/\r'.len=r.len:=fun {r r'} hr=>by
  have hok:r.OD x:=by
   have hr0:=hr;unfold al.set at hr0;split at hr0
   ·exact ho
   ·trivial
   ·trivial
   ·cases hr0
  have:=(zp hr hok hx).1;exact ⟨this,by rw [al.kI,al.kI,this,List.length_set]⟩
 have other:∀{u sz b' o cap:Nat} {cs:List Value},Nat.beq u t=false->At G w u sz b' o cap cs->At G w' u sz b' o cap cs:=fun {u sz b' o cap cs} hu h=>by
  rcases h with h|⟨q1,q2,q3,ys,e',fz',q4,q5⟩
  ·exact .inl h
  ·have hne:b'≠b:=fun he=>by
    subst he;have:=hi.injτ u t _ q2 hb;subst this;rw [Nat.beq_refl]at hu;cases hu
   exact .inr ⟨q1,q2,fun i c hc=>by rw [World.cell?_of_block (w:=w) (a:=⟨b',o+i,none⟩) (h5 b' hne)];exact q3 i c hc,ys,e',fz',by rw [h5 b' hne];exact q4,q5⟩
 have leaf:∀y q,y.leaf=true->aN y G w q->aN (qd t z x y) G w' q:=fun y q hl h=>by
  cases y with
  |undef=>trivial
  |int k z=>exact h
  |bool b=>exact h
  |str l=>exact h
  |raw u=>exact h
  |arr n r=>exact h
  |agg l=>cases hl
  |tup l=>cases hl
  |fn g a b=>cases hl
  |ptr n off=>exact h
  |pix n off i=>exact h
  |asl n off lo len=>exact h
  |gp g off=>exact h
  |gix g off i=>exact h
  |row nl r u=>
   show aN (bif Nat.beq u t then setOf r z x (fun r'=>.row nl r' u)else .row nl r u) G w' q
   cases hu:Nat.beq u t with
   |false=>
    rcases (show Sl G w nl u 1 r.aM q from h)with h|⟨g1,b',o,cap,g2,g3,g4⟩
    ·exact .inl h
    ·exact .inr ⟨g1,b',o,cap,g2,g3,other hu g4⟩
   |true=>
    have:=Nat.eq_of_beq_eq_true hu;subst this;show aN (setOf r z x _) G w' q;unfold setOf;split
    ·rename_i r' hr
     obtain ⟨v1,v2⟩:=aM hr;show Sl G w' nl u 1 r'.aM q;rw [v1];rcases (show Sl G w nl u 1 r.aM q from h)with⟨g1,g2,g3⟩|⟨g1,b',o,cap,g2,g3,g4⟩
     ·exact .inl ⟨g1,by rw [g2];rfl,g3⟩
     ·have hbb:b'=b:=by
       rcases g4 with⟨h,-⟩|⟨-,h,-⟩
       ·exact absurd h ht
       ·rw [hb]at h;injection h with h;exact h.symm
      subst hbb;refine .inr ⟨g1,b',o,cap,by rw [List.length_set];exact g2,by rw [List.length_set];exact g3,?_⟩;rw [oT (dF r)]at g4;rw [oT (fun u hu=>by
       rcases List.mem_or_eq_of_mem_set hu with h|h
       ·exact dF r u h
       ·rw [h];exact zw hr hx)]
      exact At.laid hb h6 h7 hz ht g4
    ·trivial
  |ep r u j=>
   show aN (bif Nat.beq u t then setOf r z x (fun r'=>.ep r' u j)else .ep r u j) G w' q
   obtain ⟨b',o,cap,g1,g2,g3,g4⟩:=h;cases hu:Nat.beq u t with
   |false=>exact ⟨b',o,cap,g1,g2,g3,other hu g4⟩
   |true=>
    have:=Nat.eq_of_beq_eq_true hu;subst this;show aN (setOf r z x _) G w' q;unfold setOf;split
    ·rename_i r' hr
     obtain ⟨v1,v2⟩:=aM hr;have hbb:b'=b:=by
      rcases g4 with⟨h,-⟩|⟨-,h,-⟩
      ·exact absurd h ht
      ·rw [hb]at h;injection h with h;exact h.symm
     subst hbb;refine ⟨b',o,cap,g1,g2,by rw [v2];exact g3,?_⟩;rw [v1];exact At.laid hb h6 h7 hz ht g4
    ·trivial
  |vec nl sz l u=>
   show aN (bif Nat.beq u t then .undef else .vec nl sz l u) G w' q
   cases hu:Nat.beq u t with
   |true=>trivial
   |false=>
    obtain ⟨us,k1,k2,k3⟩:=h;refine ⟨us,aw.deep (G:=G) (G':=G) (gm.refl _) k1,k2,?_⟩;rcases k3 with h|⟨g1,b',o,cap,g2,g3,g4⟩
    ·exact .inl h
    ·exact .inr ⟨g1,b',o,cap,g2,g3,other hu g4⟩
  |epv sz l u j off=>
   show aN (bif Nat.beq u t then .undef else .epv sz l u j off) G w' q
   cases hu:Nat.beq u t with
   |true=>trivial
   |false=>
    obtain ⟨b',o,cap,us,g1,g2,g3,g4,g5,g6⟩:=h;exact ⟨b',o,cap,us,g1,g2,g3,aw.deep (G:=G) (G':=G) (gm.refl _) g4,g5,other hu g6⟩
 have hr:∀y q,aN y G w q->aN (y.cC (qd t z x)) G w' q:=fun y q hy=>aN.map leaf (zx t z x) hy;refine ⟨⟨fun b' o u hu=>?_,hi.base,hi.ext,fun k y hy=>?_,fun k b' hk=>?_,fun s b' hs=>?_,hi.injσ,hi.injτ,hi.disj,hi.par,hi.kept.step h1 h2 h3 (Nat.le_of_eq h4.symm) (fun k hk hno=>h5 k (fun he=>hno (by rw [he];exact hown)))⟩,hr,gm.refl _⟩
 ·have:=hi.fits b' o u hu
  have hne:b'≠b:=fun he=>by rw [he,hF0]at hu;cases hu
  rw [World.cell?_of_block (w:=w) (a:=⟨b',o,none⟩) (h5 b' hne)];exact this
 ·rw [dT]at hy
  cases hg:b6 k lh with
  |none=>rw [hg]at hy;cases hy
  |some c=>
   rw [hg]at hy;injection hy with hy;subst hy
   obtain ⟨b',q1,u',e',fz',q2,q3,q4,q5,q6⟩:=hi.box k c hg;refine ⟨b',q1,u',e',fz',?_,q3,hr _ _ q4,by rw [PV.gE (zx t z x)];exact q5,q6⟩;rw [h5 b' (fun he=>hi.disj k t b' q1 (by rw [he];exact hb))];exact q2
 ·obtain ⟨⟨y,hy⟩,q2,q3⟩:=hi.boxF k b' hk
  exact ⟨⟨y.cC (qd t z x),by rw [dT,hy];rfl⟩,q2,q3⟩
 ·obtain ⟨q1,q2,q3⟩:=hi.mark s b' hs
  exact ⟨q1,by rw [h4];exact q2,q3⟩
def u6.Is(s:u6)(v:PV)(f:Option (PV->PV))(lh lh':List (Nat×PV)):Prop:=match s with
 |.val x=>x=v/\f=none/\lh'=lh
 |.vneed p x=>p/\x=v/\f=none/\lh'=lh
 |.ok x g l=>x=v/\g=f/\l=lh'
 |.cE p x g l=>p/\x=v/\g=f/\l=lh'
 |.bad _=>False
theorem Jr {t:TypeId}{x y v:PV}{f:Option (PV->PV)}{lh':List (Nat×PV)}{a b:Value}(hi:Inv cx G lh w)(h:(Ct P t x y lh).Is v f lh lh')(ha:aN x G w a)(hb:aN y G w b):
 ∃w',(Instr.storeAt t a b).run P w=.ok () w'/\dI cx G w f lh' G w'/\v=.tup []:=by
 unfold Ct at h;split at h
 ·rename_i n off
  split at h
  ·rename_i c hc
   split at h
   ·rename_i c' hk hs
    obtain ⟨rfl,rfl,rfl⟩:=h;simp only [Bool.and_eq_true]at hk;obtain ⟨⟨⟨k1,k2⟩,k3⟩,k4⟩:=hk;have fy:Full (typed P t 0 y) G w b:=Full.fit (eA hb) (lE k2);obtain ⟨bk,h1,rfl⟩:=ha;obtain ⟨b',h2,u,e,fz,h3,h4,h5,h6,h7⟩:=hi.box n c hc;rw [h1]at h2;injection h2 with h2;subst h2
    obtain ⟨u',q1,q2,q3,-⟩:=r5 fy (xn k4).2 ⟨h5,h6,h7⟩ hs;have hvs:b.cells.size=aY P t:=by rw [fy.wid];exact Nat.eq_of_beq_eq_true k1
    refine ⟨_,?_,written hi hc h1 h3 h4 q1 q2 (by simpa using q3),rfl⟩;unfold Instr.storeAt storeVar;simp only [Sem.run_bind,Instr.sureAddr,Sem.run_pure,Result.andThen_ok,cF k3];rw [if_neg (by omega)];exact oS h3 h4 (by simpa using q3) (fun q hq=>fy.flat q hq)
   ·exact h.elim
  ·exact h.elim
 ·rename_i n off z
  split at h
  ·rename_i c hc
   split at h
   ·rename_i m r hr
    split at h
    ·rename_i r' hct hs
     split at h
     ·rename_i c' hp
      obtain ⟨⟨hz,ho⟩,rfl,rfl,rfl⟩:=h;obtain ⟨h0,bk,h1,rfl⟩:=ha;obtain ⟨b',h2,u,e,fz,h3,h4,h5,h6,h7⟩:=hi.box n c hc;rw [h1]at h2;injection h2 with h2;subst h2
      obtain ⟨k1,-⟩:=nz ⟨h5,h6,h7⟩ hr;obtain ⟨g1,g2,g3⟩:=zp hs ho hb;have hlt:z.toNat<r.aM.length:=by unfold within at hz;omega
      obtain ⟨u',q1,q2,q3⟩:=vm g1 g2 hlt ⟨h5,h6,h7⟩ hr hp;obtain ⟨c1,c2,c3⟩:=jH hct;refine ⟨_,?_,written hi hc h1 h3 h4 q1 q2 (by simpa using q3),rfl⟩;unfold Instr.storeAt storeVar;simp only [Sem.run_bind,Instr.sureAddr,Sem.run_pure,Result.andThen_ok,cF c1,c2,cells_one g2];rw [if_neg (by simp)];exact oS h3 h4 (by simpa using q3) (fun q hq=>by
       have:q=b:=by simpa using hq
       rw [this];exact g2)
     ·exact h.elim
    ·exact h.elim
   ·exact h.elim
  ·exact h.elim
 ·rename_i r u0 z
  split at h
  ·rename_i u r' hct hs
   obtain ⟨ho,rfl,rfl,rfl⟩:=h;obtain ⟨bk,o,cap,rfl,h0,hzl,hat⟩:=ha;rcases hat with⟨hu,-⟩|⟨hu,hτ,hcell,xs,e,fz,hbk,⟨rfl,hsz⟩,hclr⟩
   ·cases hu
   obtain ⟨c1,c2,c3⟩:=jH hct;have hzt:z.toNat<r.aM.length:=by rw [al.kI]at hzl;omega
   have hzx:z.toNat<xs.size:=by
    have h5:=hcell z.toNat _ (List.getElem?_eq_getElem hzt);unfold World.cell? at h5;rw [hbk]at h5;have h6:xs[0+z.toNat]?=some _:=h5;have:=(Array.getElem?_eq_some_iff.1 h6).1;omega
   have hfl:ez b=true:=zw hs hb;have hnew:=gG [b] z.toNat w bk xs e fz hbk;refine ⟨w.setCells bk z.toNat [b],?_,Mn hi hτ hbk hnew hzx (World.os_setCells ..) (gH ..) (World.output_setCells ..) (setCells_size ..) (fun k hk=>iN w bk _ _ k hk) ho hb,rfl⟩;unfold Instr.storeAt storeVar;simp only [Sem.run_bind,Instr.sureAddr,Sem.run_pure,Result.andThen_ok,cF c1,c2,cells_one hfl];rw [if_neg (by simp),Nat.zero_add];exact oS hbk hclr (by simp;omega) (fun q hq=>by
    have:q=b:=by simpa using hq
    rw [this];exact hfl)
  ·exact h.elim
 ·exact h.elim
end
section
variable {P:Program} {cx:Cx} {G:Gh} {lh:List (Nat×PV)} {w:World}
def QM(new:Bool)(t:Nat):Nat->Option Nat:=match new with |true=>cH t|false=>ng t
theorem OU {new:Bool}{t:Nat}(ht:t≠0):rS (QM new t)/\QM new t t≠some t:=by
 cases new with
 |true=>
  refine ⟨jJ t,?_⟩;show some (bif Nat.beq t t then 0 else t)≠some t
  rw [Nat.beq_refl];intro e;injection e with e
  exact ht e.symm
 |false=>
  refine ⟨Jp ht,?_⟩;show(bif Nat.beq t t then none else some t)≠some t
  rw [Nat.beq_refl];intro e;cases e
theorem Mo {nl:Bool}{t:Nat}{d:Option Tmp}{t':Nat}{new:Bool}(h:Ji nl t d=some (t',new)):t'≠0/\((t≠0/\t'=t/\new=false)\/(t=0/\nl=true)):=by
 unfold Ji at h;split at h
 ·injection h with h;injection h with h1 h2;subst h1;subst h2
  exact ⟨Nat.succ_ne_zero _,.inl ⟨Nat.succ_ne_zero _,rfl,rfl⟩⟩
 ·split at h
  ·rw [Option.map_eq_some_iff]at h
   obtain ⟨n,hn,h⟩:=h;injection h with h1 h2;subst h1
   have:=jK hn;exact ⟨by omega,.inr ⟨rfl,rfl⟩⟩
  ·cases h
theorem r9 {f:Nat->Option Nat}{t':Nat}{w':World}{xs:Array Value}{e:TypeId}{fz:Nat×Nat}(hi:Inv cx G lh w)(hf:rS f)(hft:f t'≠some t')(ht:t'≠0)(hh:w'.heap=w.heap.push (.cells xs e fz))(h1:w'.os=w.os)(h2:w'.tape=w.tape)(h3:w'.output=w.output)
 (hz:Clear fz xs.size){sz cap:Nat}{us:List Value}(hcap:cap*sz<=xs.size)(hus:us.length<=cap)(hc:∀(i:Nat) (c:Value),(us.flatMap fun u=>u.cells.toList)[i]?=some c->xs[i]?=some c):
 dI cx G w (some (PV.aO f)) (cT (PV.aO f) lh) (G.turn w f (some (t',w.heap.size))) w'/\Sl (G.turn w f (some (t',w.heap.size))) w' false t' sz us (.slice (some ⟨w.heap.size,0,none⟩) us.length cap):=by
 have hnew:w'.heap[w.heap.size]?=some (.cells xs e fz):=by rw [hh];simp
 obtain ⟨s1,s2⟩:=hi.turn (w':=w') hf (some (t',w.heap.size)) h1 h2 h3 (by rw [hh];simp) (fun k hk _=>by rw [hh,Array.getElem?_push,if_neg (by omega)])
  (fun t b e=>by injection e with e;injection e with e1 e2;subst e1;subst e2;exact ⟨ht,by rw [hh];simp,hft,.inl (Nat.le_refl _)⟩)
 refine ⟨⟨s1,s2,hi.ij _ _⟩,.inr ⟨rfl,w.heap.size,0,cap,rfl,hus,.inr ⟨ht,?_,fun i c hi=>?_,xs,e,fz,hnew,by omega,hz⟩⟩⟩
 ·show(if(some (t',w.heap.size)).map (·.1)=some t' then(some (t',w.heap.size)).map (·.2)else(match f t' with |some (u+1)=>G.τ t'|_=>none))=_
  exact if_pos rfl
 ·unfold World.cell?
  rw [hnew];have:=hc i c hi;simpa using this
theorem sa {us:List Value}{sz:Nat}(hw:∀u∈us,u.cells.size=sz):(us.flatMap fun u=>u.cells.toList).length=us.length*sz:=by
 induction us with
 |nil=>simp
 |cons u us ih=>
  rw [List.flatMap_cons,List.length_append,ih (fun v hv=>hw v (List.mem_cons_of_mem _ hv)),List.length_cons,Nat.succ_mul,Array.length_toList,hw u (List.mem_cons_self ..)];omega
theorem vo {e:TypeId}{sz:Nat}(h:oN P e sz=true):fQ P e=true/\aY P e=sz/\∃i z,P.info? e=some i/\i.zero=some z/\i.size=sz/\z.cells.size=sz/\i.bytes<=65536/\(∀G w,Full (zeroV P 5 e 0) G w z):=by
 unfold oN at h;simp only [Bool.and_eq_true]at h;obtain ⟨⟨⟨h1,h2⟩,h3⟩,h4⟩:=h;have e2:=Nat.eq_of_beq_eq_true h2;obtain ⟨i,z,hi,hz,f,hw,-⟩:=nx h3;have hs:i.size=sz:=by unfold aY at e2;rw [hi]at e2;exact e2
 refine ⟨h1,e2,i,z,hi,hz,hs,?_,?_,f⟩
 ·rw [(f ⟨fun _=>none,fun _=>none,fun _ _=>none⟩ ⟨default,default,default,default,default⟩).wid,hw,hs]
 ·unfold Jh at h4;rw [hi]at h4;exact Nat.le_of_ble_eq_true h4
theorem uh(z:Array Value)(n:Nat):(Builtin.zeroCells z n).size=n*z.size:=by simp [Builtin.zeroCells]
theorem vp {t tx ty e:TypeId}{sz:Nat}(hd:P.underlying t=some (.slice e))(hel:oN P e sz=true)(hi:Inv cx G lh w){nl:Bool}{tk:Nat}{us qs:List Value}{v y:Value}{d:Option Tmp}{t':Nat}{new:Bool}
 (hs:Sl G w nl tk sz us v)(hw:va sz us)(hsrc:Src P sz tx y qs.length (qs.flatMap fun u=>u.cells.toList) w)(hq:va sz qs)(hg:Ji nl tk d=some (t',new))(hlen:us.length+qs.length<=16777216):
 ∃u G' w',(Builtin.append_ #[t,tx] ty #[v,y]).run P w=.ok u w'/\dI cx G w (some (N8 new t')) (cT (N8 new t') lh) G' w'/\Sl G' w' (bif qs.isEmpty then nl else false) t' sz (us++qs) u:=by
 obtain ⟨ht,hcase⟩:=Mo hg;obtain ⟨mf,mft⟩:=OU (new:=new) ht;obtain ⟨e1,e2,i,z,hi1,hz1,hs1,hzs,hby,-⟩:=vo hel;subst hs1;have huw:∀u∈us++qs,u.cells.size=i.size:=fun u hu=>(List.mem_append.1 hu).elim (fun h=>(hw u h).1) (fun h=>(hq u h).1);have fl:(us++qs).flatMap (fun u=>u.cells.toList)=(us.flatMap fun u=>u.cells.toList)++qs.flatMap fun u=>u.cells.toList:=by rw [List.flatMap_append]
 have hul:=sa (fun u hu=>(hw u hu).1);have hql:=sa (fun u hu=>(hq u hu).1);have grow:∀(base:Option Addr) (cap:Nat),(Builtin.firstCells i.size us.length (.slice base us.length cap)).run P w.drew=.ok (us.flatMap fun u=>u.cells.toList).toArray w.drew->cap<us.length+qs.length->
  ∃u G' w',(Builtin.append_ #[t,tx] ty #[.slice base us.length cap,y]).run P w=.ok u w'/\dI cx G w (some (N8 new t')) (cT (N8 new t') lh) G' w'/\Sl G' w' false t' i.size (us++qs) u:=by
  intro base cap hold hcap;have hfit:Builtin.nextslicecap (us.length+qs.length) cap*i.bytes<=281474976710656:=growslice_fits hcap (by
   have:(us.length+qs.length)*i.bytes<=16777216*65536:=Nat.mul_le_mul hlen hby;omega)
  have hrun:=run_append_grow_src (P:=P) w t tx ty e i z hd hi1 hz1 base us.length cap _ hold y qs.length _ hsrc hcap (by omega) hfit;have hge:=grownCap_ge w (us.length+qs.length) cap e;obtain ⟨s1,s2⟩:=r9 (w':=w.drew.alloc (.cells ((((us.flatMap fun u=>u.cells.toList)++qs.flatMap fun u=>u.cells.toList)).toArray++Builtin.zeroCells z.cells (grownCap w (us.length+qs.length) cap e-(us.length+qs.length))) e)) (us:=us++qs) (sz:=i.size) (cap:=grownCap w (us.length+qs.length) cap e) hi mf mft ht rfl rfl rfl rfl (fun j hj hh=>by have:=hh.2;simp at this)
   (by
     rw [Array.size_append,List.size_toArray,uh,hzs,List.length_append,hul,hql,<-Nat.add_mul,<-Nat.add_mul];exact Nat.le_of_eq (by congr 1;omega)) (by rw [List.length_append];exact hge) (fun j c hj=>by
     rw [fl]at hj;have hlt:=(List.getElem?_eq_some_iff.1 hj).1;rw [Array.getElem?_append_left (by simpa using hlt)];simpa using hj)
  refine ⟨_,_,_,hrun,s1,?_⟩;rw [List.length_append]at s2;exact s2
 rcases hs with⟨rfl,rfl,rfl⟩|⟨rfl,b,o,cap,rfl,hc,hat⟩
 ·cases qs with
  |nil=>
   obtain ⟨s1,s2⟩:=hi.turn (w':=w) mf none rfl rfl rfl (Nat.le_refl _) (fun _ _ _=>rfl) (fun t b e=>by cases e);exact ⟨_,_,w,run_append_nothing (P:=P) w t tx ty e i hd hi1 none 0 0 (Nat.le_refl _) y hsrc,⟨s1,s2,hi.ij _ _⟩,.inl ⟨rfl,rfl,rfl⟩⟩
  |cons q qs=>exact grow none 0 (by simp [Builtin.firstCells]) (by simp)
 ·obtain ⟨h0,rfl,rfl⟩:tk≠0/\t'=tk/\new=false:=by
   rcases hcase with h|⟨-,h⟩
   ·exact h
   ·cases h
  have hnl:(bif qs.isEmpty then false else false)=false:=by cases qs.isEmpty<;>rfl
  rw [hnl];rcases hat with⟨h,-⟩|⟨-,hτ,hcell,xs,e',fz,hb,hsz,hclr⟩
  ·exact absurd h h0
  ·by_cases hroom:us.length+qs.length<=cap
   ·have hle:o+us.length*i.size+(qs.flatMap fun u=>u.cells.toList).length<=xs.size:=by
     rw [hql];have:(us.length+qs.length)*i.size<=cap*i.size:=Nat.mul_le_mul_right _ hroom;rw [Nat.add_mul]at this;omega
    have hrun:=run_append_room_src (P:=P) w t tx ty e i hd hi1 b o us.length cap y qs.length _ hsrc hroom (fun j hj=>by
     unfold World.cell?;rw [hb];show(xs[o+us.length*i.size+j]?).isSome=true;rw [Array.getElem?_eq_getElem (by omega)];rfl) (fun j hj=>by
     unfold World.frozen?;rw [hb];have:=hclr (o+us.length*i.size+j) (by omega);simp only [Bool.and_eq_false_iff,decide_eq_false_iff_not];omega)
    have hkill:ng t' t'=none:=by unfold ng;rw [Nat.beq_refl];rfl
    have hblt:b<w.heap.size:=(Array.getElem?_eq_some_iff.1 hb).1;obtain ⟨s1,s2⟩:=hi.turn (w':=w.setCells b (o+us.length*i.size) (qs.flatMap fun u=>u.cells.toList)) (f:=ng t') mf (some (t',b)) (World.os_setCells ..) (gH ..) (World.output_setCells ..) (by rw [setCells_size];exact Nat.le_refl _)
     (fun k hk hne=>iN w b _ _ k (fun e=>hne t' h0 hkill rfl (by rw [e];exact hτ)))
     (fun t b' e=>by injection e with e;injection e with e1 e2;subst e1;subst e2;exact ⟨h0,by rw [setCells_size];exact hblt,(by rw [hkill];intro e;cases e),.inr ⟨hτ,hkill⟩⟩)
    have hnew:=gG (qs.flatMap fun u=>u.cells.toList) (o+us.length*i.size) w b xs e' fz hb;refine ⟨_,_,_,hrun,⟨s1,s2,hi.ij _ _⟩,.inr ⟨rfl,b,o,cap,by rw [List.length_append],by rw [List.length_append];exact hroom,.inr ⟨h0,?_,fun j c hj=>?_,_,e',fz,hnew,by rw [jL _ _ _ hle];exact hsz,fun j hj=>hclr j (by rw [jL _ _ _ hle]at hj;exact hj)⟩⟩⟩
    ·show(if(some (t',b)).map (·.1)=some t' then(some (t',b)).map (·.2)else(match ng t' t' with |some (u+1)=>G.τ t'|_=>none))=_
     exact if_pos rfl
    ·rw [fl]at hj
     unfold World.cell?;rw [hnew];show(ky xs (o+us.length*i.size) _)[o+j]?=some c;rw [<-Array.getElem?_toList,gu _ _ _ hle];unfold eI;by_cases hju:j<(us.flatMap fun u=>u.cells.toList).length
     ·have hju':j<us.length*i.size:=Nat.lt_of_lt_of_eq hju hul
      rw [List.getElem?_append_left hju]at hj;have:=hcell j c hj;unfold World.cell? at this;rw [hb]at this;have h5:xs[o+j]?=some c:=by simpa using this
      have h6:o+j<xs.size:=(Array.getElem?_eq_some_iff.1 h5).1;have h7:o+j<(xs.toList.take (o+us.length*i.size)).length:=by have hx:xs.toList.length=xs.size:=Array.length_toList;rw [List.length_take];omega
      rw [List.append_assoc,List.getElem?_append_left h7,List.getElem?_take,if_pos (by omega),Array.getElem?_toList];exact h5
     ·have hju':us.length*i.size<=j:=by have:=Nat.le_of_not_lt hju;exact Nat.le_trans (Nat.le_of_eq hul.symm) this
      rw [List.getElem?_append_right (by omega),hul]at hj;have hlt:=(List.getElem?_eq_some_iff.1 hj).1;have h6:(xs.toList.take (o+us.length*i.size)).length=o+us.length*i.size:=by have hx:xs.toList.length=xs.size:=Array.length_toList;rw [List.length_take];omega
      rw [List.getElem?_append_left (by rw [List.length_append,h6];omega),List.getElem?_append_right (by rw [h6];omega),h6];rw [<-hj];congr 1;omega
   ·exact grow (some ⟨b,o,none⟩) cap (run_firstCells_some w.drew i.size us.length ⟨b,o,none⟩ us.length cap _ hul (fun j c hj=>by
     rw [Addr.add_lit];have:=hcell j c hj;simpa using this)) (by omega)
theorem Mp(hi:Inv cx G lh w){tx:TypeId}(htx:EJ P tx=true){y:PV}{q:al}{u:Value}(h:Cu y=some q)(hu:aN y G w u):Src P 1 tx u q.aM.length (q.aM.flatMap fun u=>u.cells.toList) w:=by
 have hk:(∃e',P.underlying tx=some (.slice e'))\/P.underlying tx=some .string:=by
  unfold EJ at htx;split at htx
  ·rename_i e hd;exact .inl ⟨e,hd⟩
  ·rename_i hd;exact .inr hd
  ·cases htx
 have hfl:(q.aM.flatMap fun u=>u.cells.toList)=q.aM:=by
  have h3:∀l:List Value,(∀u∈l,ez u=true)->(l.flatMap fun u=>u.cells.toList)=l:=by
   intro l hl
   induction l with
   |nil=>rfl
   |cons u l ih=>rw [List.flatMap_cons,ih (fun v hv=>hl v (List.mem_cons_of_mem _ hv)),cells_one (hl u (List.mem_cons_self ..))];rfl
  exact h3 _ (dF q)
 rw [hfl];unfold Cu at h;split at h
 ·rename_i l
  injection h with h;subst h
  rw [show u=_ from hu];have e1:(byteCells ⟨l.toArray⟩)=(al.bytes l).aM:=by simp [byteCells,al.aM]
  have e2:(al.bytes l).aM.length=(⟨l.toArray⟩:ByteArray).size:=by simp [al.aM,ByteArray.size]
  rw [e2,<-e1];exact ⟨hk,fun _=>rfl,firstCells_string _ w,firstCells_string _ w.drew,by rw [byteCells_length,Nat.mul_one],fun u hu=>by
   obtain ⟨_,_,rfl⟩:=List.mem_map.1 hu;rfl⟩
 ·rename_i nl r t
  injection h with h;subst h
  rcases (show Sl G w nl t 1 r.aM u from hu)with⟨-,hv,rfl⟩|⟨-,b,o,cap,rfl,h2,h3⟩
  ·rw [hv]
   exact ⟨hk,fun _=>rfl,run_firstCells_none w 1 0 0 0,run_firstCells_none w.drew 1 0 0 0,rfl,fun _ h=>by cases h⟩
  ·have hc:∀j c,r.aM[j]?=some c->w.cell? ((⟨b,o,none⟩:Addr).add j)=some c:=fun j c hj=>by
    rw [Addr.add_lit];rw [hfl]at h3;exact h3.cell hi hj
   exact ⟨hk,fun _=>rfl,run_firstCells_some w 1 _ _ _ _ _ (by simp) hc,run_firstCells_some w.drew 1 _ _ _ _ _ (by simp) (by simpa using hc),by simp,dF r⟩
 ·cases h
theorem Js {r q r':al}(h:r.app q=some r'):r'.aM=r.aM++q.aM:=by
 unfold al.app at h;split at h
 ·injection h with h;subst h;simp [al.aM]
 ·injection h with h;subst h;simp [al.aM]
 ·split at h
  ·rename_i hk
   have:=dk hk;subst this;injection h with h;subst h;simp [al.aM]
  ·cases h
 ·cases h
theorem GB(r:al):r.none?=r.aM.isEmpty:=by
 cases r<;>(rename_i l;cases l<;>rfl)
theorem aw.append {l m:List PV}{us vs:List Value}(h:aw l G w us)(h':aw m G w vs):aw (l++m) G w (us++vs):=by
 induction l generalizing us with
 |nil=>rw [show us=[]from h];exact h'
 |cons x l ih=>
  obtain ⟨u,us',rfl,h1,h2⟩:=h;exact ⟨u,us'++vs,rfl,h1,ih h2⟩
theorem vq(r:al):va 1 r.aM:=fun u hu=>⟨zo r u hu,fun c hc=>by
 have hf:=dF r u hu;rw [cells_one hf]at hc;have:c=u:=by simpa using hc
 rw [this];exact hf⟩
theorem CG {ts:Array TypeId}{t tx ty:TypeId}{s x:Value}(h0:ts[0]?=some t)(h1:ts[1]?=some tx):Builtin.append_ ts ty #[s,x]=Builtin.append_ #[t,tx] ty #[s,x]:=by
 unfold Builtin.append_;rw [h0,h1];rfl
theorem GC {t tx ty:TypeId}{ts:Array TypeId}(h0:ts[0]?=some t)(h1:ts[1]?=some tx){x y v:PV}{d:Option Tmp}{f:Option (PV->PV)}{lh':List (Nat×PV)}{a b:Value}(hi:Inv cx G lh w)(h:(xd P t tx x y d lh).Is v f lh lh')(ha:aN x G w a)(hb:aN y G w b):
 ∃u G' w',(Builtin.append_ ts ty #[a,b]).run P w=.ok u w'/\dI cx G w f lh' G' w'/\aN v G' w' u:=by
 rw [CG h0 h1];unfold xd at h;split at h
 ·rename_i e nl sz l tk nl2 sz2 q tk2 hd htx
  split at h
  ·rename_i t' new hc hg
   obtain ⟨hlen,rfl,rfl,rfl⟩:=h;rw [Bool.and_eq_true]at hc;have:=Nat.eq_of_beq_eq_true hc.2;subst this;obtain ⟨us,g1,g2,g3⟩:=ha;obtain ⟨vs,k1,k2,k3⟩:=hb;have l1:=g1.length;have l2:=k1.length;have hk:(∃e',P.underlying tx=some (.slice e'))\/P.underlying tx=some .string:=by
    unfold EJ at htx;split at htx
    ·rename_i e hd;exact .inl ⟨e,hd⟩
    ·rename_i hd;exact .inr hd
    ·cases htx
   have hone:∀c∈vs.flatMap (fun u=>u.cells.toList),ez c=true:=fun c hc=>by
    obtain ⟨u,hu,hcu⟩:=List.mem_flatMap.1 hc;exact (k2 u hu).2 c hcu
   have hvl:=sa (fun u hu=>(k2 u hu).1);have hsrc:Src P sz tx b vs.length (vs.flatMap fun u=>u.cells.toList) w:=by
    rcases k3 with⟨-,rfl,rfl⟩|⟨-,bk,o,cap,rfl,h2,h3⟩
    ·exact ⟨hk,fun _=>rfl,run_firstCells_none w sz 0 0 0,run_firstCells_none w.drew sz 0 0 0,by simp,fun _ h=>by cases h⟩
    ·have hc:∀j c,(vs.flatMap fun u=>u.cells.toList)[j]?=some c->w.cell? ((⟨bk,o,none⟩:Addr).add j)=some c:=fun j c hj=>by
      rw [Addr.add_lit];exact h3.cell hi hj
     exact ⟨hk,fun _=>rfl,run_firstCells_some w sz _ _ _ _ _ hvl hc,run_firstCells_some w.drew sz _ _ _ _ _ hvl (by simpa using hc),hvl,hone⟩
   obtain ⟨u,G',w',r1,r2,r3⟩:=vp (ty:=ty) hd hc.1 hi g3 g2 hsrc k2 hg (by
    have:ai (l++q)<=16777216:=hlen;unfold ai at this;rw [List.length_append]at this;omega)
   refine ⟨u,G',w',r1,r2,us++vs,?_,fun u hu=>(List.mem_append.1 hu).elim (g2 u) (k2 u),?_⟩
   ·exact aw.deep (G:=G) (G':=G') r2.le (g1.append k1)
   ·have:q.isEmpty=vs.isEmpty:=by
     cases q with
     |nil=>rw [show vs=[]from k1];rfl
     |cons x q=>obtain ⟨c,cs,rfl,-⟩:=k1;rfl
    rw [this];exact r3
  ·exact h.elim
 ·rename_i x0 y0 e nl r tk hd htx
  split at h
  ·rename_i q hq
   split at h
   ·rename_i r' t' new hc happ hg
    obtain ⟨hlen,rfl,rfl,rfl⟩:=h;have hv:=Js happ;obtain ⟨u,G',w',r1,r2,r3⟩:=vp (ty:=ty) hd hc hi (show Sl G w nl tk 1 r.aM a from ha) (vq r) (Mp hi htx hq hb) (vq q) hg (by
     have:r'.len<=16777216:=hlen;rw [al.kI,hv,List.length_append]at this;omega)
    refine ⟨u,G',w',r1,r2,?_⟩;show Sl G' w' _ t' 1 r'.aM u;rw [hv,GB];exact r3
   ·exact h.elim
  ·exact h.elim
 ·exact h.elim
end
section
variable {P:Program} {cx:Cx} {G:Gh} {lh:List (Nat×PV)} {w:World}
theorem ei {α:Type}{a b:List α}(h:a++b=[]):a=[]/\b=[]:=List.append_eq_nil_iff.1 h
theorem cl {y:PV}{v:Value}(hl:y.leaf=true)(h1:y.bM=[])(h2:y.bU=[])(h:aN y G w v):aN y G.deep w v:=
 aN.EO (G:=G) (G':=G.deep) (w:=w) (w':=w) hl (gm.refl _) (fun n hn=>by rw [h2]at hn;cases hn) (fun t ht=>by rw [h1]at ht;cases ht) h
mutual
theorem aN.fa:∀{x:PV} {v:Value},PV.ee PV.bM x=[]->PV.ee PV.bU x=[]->aN x G w v->aN x G.deep w v
 |.agg l,v,h1,h2,h=>by
  obtain ⟨us,g1,g2⟩:=h;exact ⟨us,gj.fa h1 h2 g1,g2⟩
 |.tup l,v,h1,h2,h=>by
  obtain ⟨us,g1,g2⟩:=h;exact ⟨us,aw.fa h1 h2 g1,g2⟩
 |.fn g a b,v,h1,h2,h=>by
  obtain ⟨us,vs,g1,g2,g3⟩:=h;obtain ⟨p1,p2⟩:=ei h1;obtain ⟨q1,q2⟩:=ei h2;exact ⟨us,vs,aw.fa p1 q1 g1,aw.fa p2 q2 g2,g3⟩
 |.undef,v,h1,h2,h=>cl rfl h1 h2 h
 |.int k z,v,h1,h2,h=>cl rfl h1 h2 h
 |.bool b,v,h1,h2,h=>cl rfl h1 h2 h
 |.str l,v,h1,h2,h=>cl rfl h1 h2 h
 |.raw u,v,h1,h2,h=>cl rfl h1 h2 h
 |.arr n r,v,h1,h2,h=>cl rfl h1 h2 h
 |.row nl r t,v,h1,h2,h=>cl rfl h1 h2 h
 |.vec nl sz l t,v,h1,h2,h=>cl rfl h1 h2 h
 |.ep r t i,v,h1,h2,h=>cl rfl h1 h2 h
 |.epv sz l t i off,v,h1,h2,h=>cl rfl h1 h2 h
 |.ptr n off,v,h1,h2,h=>cl rfl h1 h2 h
 |.pix n off i,v,h1,h2,h=>cl rfl h1 h2 h
 |.asl n off lo len,v,h1,h2,h=>cl rfl h1 h2 h
 |.gp g off,v,h1,h2,h=>cl rfl h1 h2 h
 |.gix g off i,v,h1,h2,h=>cl rfl h1 h2 h
theorem gj.fa:∀{l:List PV} {us:List Value},PV.aC PV.bM l=[]->PV.aC PV.bU l=[]->gj l G w us->gj l G.deep w us
 |[],us,h1,h2,h=>h
 |x::l,us,h1,h2,h=>by
  obtain ⟨u,us',rfl,g1,g2,g3,g4⟩:=h;obtain ⟨p1,p2⟩:=ei h1;obtain ⟨q1,q2⟩:=ei h2;exact ⟨u,us',rfl,aN.fa p1 q1 g1,g2,g3,gj.fa p2 q2 g4⟩
theorem aw.fa:∀{l:List PV} {us:List Value},PV.aC PV.bM l=[]->PV.aC PV.bU l=[]->aw l G w us->aw l G.deep w us
 |[],us,h1,h2,h=>h
 |x::l,us,h1,h2,h=>by
  obtain ⟨u,us',rfl,g1,g4⟩:=h;obtain ⟨p1,p2⟩:=ei h1;obtain ⟨q1,q2⟩:=ei h2;exact ⟨u,us',rfl,aN.fa p1 q1 g1,aw.fa p2 q2 g4⟩
end
theorem vr {w':World}{xs:Array Value}{e:TypeId}{fz:Nat×Nat}(hi:Inv cx G lh w)(hb:Below w.heap.size w w')(hnew:w'.heap[w.heap.size]?=some (.cells xs e fz)){sz:Nat}{us:List Value}{cap:Nat}(hus:us.length<=cap)
 (hc:∀(i:Nat) (c:Value),(us.flatMap fun u=>u.cells.toList)[i]?=some c->xs[i]?=some c):
 ∃G',dI cx G w none lh G' w'/\Sl G' w' false 0 sz us (.slice (some ⟨w.heap.size,0,none⟩) us.length cap):=by
 obtain ⟨s1,s2⟩:=hi.zh hb w.heap.size (Nat.le_refl _) (fun o=>(us.flatMap fun u=>u.cells.toList)[o]?) (fun o u hu=>by
  unfold World.cell?;rw [hnew];show xs[o]?=some u;exact hc o u hu)
 refine ⟨_,⟨s1,s2,fun b o u hu=>?_⟩,.inr ⟨rfl,w.heap.size,0,cap,rfl,hus,.inl ⟨rfl,fun i c hi=>?_⟩⟩⟩
 ·show(if b=w.heap.size then _ else G.F b o)=some u
  rw [if_neg (fun e=>by have:=gF (hi.fits _ _ _ hu);omega)];exact hu
 ·show(if w.heap.size=w.heap.size then(us.flatMap fun u=>u.cells.toList)[0+i]?else _)=some c
  rw [if_pos rfl,Nat.zero_add];exact hi
theorem vt {sz:Nat}:∀{ps:List Nat} {vs:List Value} {n:Nat} {cells:Array Value},xc ps n=true->ps.length=vs.length->(∀u∈vs,u.cells.size=sz)->cells.size=(n+vs.length)*sz->
 ∃cells',Instr.fill (fun i=>some (i*sz,sz)) cells (ps.zip vs)=some cells'/\cells'.toList=cells.toList.take (n*sz)++vs.flatMap fun u=>u.cells.toList
 |[],[],n,cells,h1,h2,h3,h4=>⟨cells,by simp [Instr.fill],by
    have:cells.toList.length<=n*sz:=by simp [h4]
    rw [List.take_of_length_le this];simp⟩
 |[],_::_,n,cells,h1,h2,h3,h4=>by simp at h2
 |_::_,[],n,cells,h1,h2,h3,h4=>by simp at h2
 |i::ps,v::vs,n,cells,h1,h2,h3,h4=>by
  unfold xc at h1;rw [Bool.and_eq_true]at h1;have:=Nat.eq_of_beq_eq_true h1.1;subst this;have hv:v.cells.size=sz:=h3 v (List.mem_cons_self ..);have hle:i*sz+v.cells.toList.length<=cells.size:=by
   rw [h4,Array.length_toList,hv,List.length_cons,<-Nat.succ_mul];exact Nat.mul_le_mul_right _ (by omega)
  have hsz:=jL v.cells.toList cells (i*sz) hle;obtain ⟨cells',r1,r2⟩:=vt (sz:=sz) (ps:=ps) (vs:=vs) (n:=i+1) (cells:=ky cells (i*sz) v.cells.toList) h1.2 (by simpa using h2) (fun u hu=>h3 u (List.mem_cons_of_mem _ hu)) (by rw [hsz,h4,List.length_cons];congr 1;omega);refine ⟨cells',?_,?_⟩
  ·rw [List.zip_cons_cons,Instr.fill]
   dsimp only;have hle':¬(i*sz+v.cells.size>cells.size):=by simpa using hle
   rw [if_neg (by simp [hv];rw [hv]at hle';omega),ny];exact r1
  ·rw [r2,gu _ _ _ hle]
   unfold eI;have e1:(cells.toList.take (i*sz)).length=i*sz:=by
    rw [List.length_take,Array.length_toList];simp at hle;omega
   have e2:(v.cells.toList).length=sz:=by simpa using hv
   have e3:(cells.toList.take (i*sz)++v.cells.toList).length=i*sz+sz:=by rw [List.length_append,e1,e2]
   rw [Nat.succ_mul,List.take_append_of_le_length (Nat.le_of_eq e3.symm),List.take_of_length_le (Nat.le_of_eq e3)];simp [List.append_assoc]
theorem nA {f:PV->Bool}:∀{xs:List PV},Gk f xs=true->∀x∈xs,f x=true
 |[],_,x,hx=>by cases hx
 |y::l,h,x,hx=>by
  unfold Gk at h;rw [Bool.and_eq_true]at h;rcases List.mem_cons.1 hx with rfl|hx
  ·exact h.1
  ·exact nA h.2 x hx
theorem vu:∀{xs:List PV},jz xs->∀x∈xs,rK x.asInt
 |[],_,x,hx=>by cases hx
 |[y],h,x,hx=>by
  have:x=y:=by simpa using hx
  subst this;exact h
 |y::z::l,h,x,hx=>by
  rcases List.mem_cons.1 hx with rfl|hx
  ·exact h.1
  ·exact vu h.2 x hx
theorem aw.sb {f:PV->Value}{xs:List PV}{vs:List Value}(h:aw xs G w vs)(hf:∀x∈xs,∀v,aN x G w v->v=f x):vs=xs.map f:=by
 induction xs generalizing vs with
 |nil=>exact h
 |cons x l ih=>
  obtain ⟨u,us',rfl,h1,h2⟩:=h;rw [List.map_cons,hf x (List.mem_cons_self ..) u h1,ih h2 fun y hy=>hf y (List.mem_cons_of_mem _ hy)]
theorem vv {t:TypeId}{x:PV}:PV.ee PV.bM (typed P t 0 x)=PV.ee PV.bM x/\PV.ee PV.bU (typed P t 0 x)=PV.ee PV.bU x:=by
 unfold typed;split
 ·split
  ·unfold gL
   split<;>exact ⟨rfl,rfl⟩
  ·exact ⟨rfl,rfl⟩
 ·exact ⟨rfl,rfl⟩
theorem zy {e:TypeId}:∀{xs:List PV},Mi P e xs=true->∀x∈xs,(typed P e 0 x).wid=aY P e/\x.fit=true
 |[],_,x,hx=>by cases hx
 |y::l,h,x,hx=>by
  unfold Mi at h;simp only [Bool.and_eq_true]at h;rcases List.mem_cons.1 hx with rfl|hx
  ·exact ⟨Nat.eq_of_beq_eq_true h.1.1,h.1.2⟩
  ·exact zy h.2 x hx
theorem aw.mem {xs:List PV}{vs:List Value}(h:aw xs G w vs):∀v∈vs,∃x∈xs,aN x G w v:=by
 induction xs generalizing vs with
 |nil=>intro v hv;rw [show vs=[]from h]at hv;cases hv
 |cons x l ih=>
  obtain ⟨u,us',rfl,h1,h2⟩:=h;intro v hv;rcases List.mem_cons.1 hv with rfl|hv
  ·exact ⟨x,List.mem_cons_self ..,h1⟩
  ·obtain ⟨y,hy,h3⟩:=ih h2 v hv
   exact ⟨y,List.mem_cons_of_mem _ hy,h3⟩
theorem ui {t:TypeId}{n:Nat}{ps:List Nat}{xs:List PV}{vs:List Value}{v:PV}(hi:Inv cx G lh w)(h:(kF P t n ps xs).Is v)(ht:PV.aC PV.bM xs=[])(hn:PV.aC PV.bU xs=[])(hx:aw xs G w vs):
 ∃u G' w',(Instr.buildSlice t n (ps.zip vs).toArray).run P w=.ok u w'/\dI cx G w none lh G' w'/\aN v G' w' u:=by
 unfold kF at h;split at h
 ·rename_i e hd
  split at h
  ·rename_i hc
   simp only [Bool.and_eq_true]at hc;obtain ⟨⟨⟨⟨⟨⟨c1,c2⟩,c3⟩,c4⟩,c5⟩,c6⟩,c7⟩:=hc;have e2:=Nat.eq_of_beq_eq_true c2;have e3:=Nat.eq_of_beq_eq_true c3;have e6:n*aY P e<=4096:=Nat.le_of_ble_eq_true c6;have hl:=hx.length;obtain ⟨i,z,hi1,hz1,fz,hw,-⟩:=nx c7;have hvs:∀u∈vs,u.cells.size=aY P e/\Flat u:=by
    intro u hu;obtain ⟨x,hx1,hx2⟩:=hx.mem u hu;obtain ⟨q1,q2⟩:=zy c5 x hx1;have:=Full.fit (eA (P:=P) (t:=e) (tok:=0) hx2) (lE q2);exact ⟨by rw [this.wid,q1],this.flat⟩
   have hfull:∀m:Array Value,m.size=n*aY P e->∃cells',Instr.fill (fun i=>some (i*aY P e,aY P e)) m (ps.zip vs)=some cells'/\cells'.toList=vs.flatMap fun u=>u.cells.toList:=by
    intro m hm;obtain ⟨cells',r1,r2⟩:=vt (n:=0) (cells:=m) c1 (by omega) (fun u hu=>(hvs u hu).1) (by rw [hm,Nat.zero_add];congr 1;omega);refine ⟨cells',r1,?_⟩;rw [r2];simp
   obtain ⟨u,w',r1,r2,r3⟩:∃cells' w',(Instr.buildSlice t n (ps.zip vs).toArray).run P w=.ok (.slice (some ⟨w.heap.size,0,none⟩) n n) w'/\cells'.toList=(vs.flatMap fun u=>u.cells.toList)/\w'=w.alloc (.cells cells' e):=by
    have h16:¬(n*aY P e>2^24):=by
     have:(2:Nat)^24=16777216:=by decide
     omega
    by_cases h0:n*aY P e=0
    ·obtain ⟨cells',k1,k2⟩:=hfull ((Array.range (n*aY P e)).map (fun x=>(#[]:Array Value)[x %(#[]:Array Value).size]!)) (by simp)
     refine ⟨cells',_,?_,k2,rfl⟩;unfold Instr.buildSlice;simp only [Sem.run_bind,run_underlying hd,Result.andThen_ok,cF c4];rw [if_neg h16,if_pos h0];simp only [Sem.run_bind,Sem.run_pure,Result.andThen_ok];rw [k1];rfl
    ·obtain ⟨cells',k1,k2⟩:=hfull ((Array.range (n*aY P e)).map (fun x=>z.cells[x %z.cells.size]!)) (by simp)
     refine ⟨cells',_,?_,k2,rfl⟩;unfold Instr.buildSlice zeroValue typeInfo;simp only [Sem.run_bind,run_underlying hd,Result.andThen_ok,cF c4];rw [if_neg h16,if_neg h0];simp only [Sem.run_bind,run_program,hi1,hz1,Sem.run_pure,Result.andThen_ok];rw [k1];rfl
   subst r3;have hb:Below w.heap.size w (w.alloc (.cells u e)):=(Below.refl _ w).alloc (Nat.le_refl _) _;obtain ⟨G',t1,t2⟩:=vr (sz:=aY P e) (us:=vs) (cap:=n) hi hb (xs:=u) (e:=e) (fz:=(0,0)) (by show(w.heap.push _)[w.heap.size]?=_;simp) (by omega) (fun j c hj=>by
    rw [<-r2]at hj;simpa using hj)
   rw [show vs.length=n by omega]at t2;refine ⟨_,G',_,r1,t1,?_⟩;unfold rowOf at h;split at h
   ·rename_i l hr
    split at h
    ·rename_i ha
     rw [Bool.and_eq_true]at ha;have hs1:=Nat.eq_of_beq_eq_true ha.2;obtain ⟨hu,rfl⟩:=h.cE;have:vs=(al.bytes (xs.map fun x=>b4 x.asInt)).aM:=by
      rw [aw.sb (f:=fun x=>Value.int .u8 ((b4 x.asInt).toNat:Int)) hx (fun x hx v hv=>by
       have h1:=nA ha.1 x hx;have h2:=vu hu x hx;cases x<;>first|(cases h1;done)|skip
       rename_i k z;cases k<;>first|(cases h1;done)|skip
       rw [show v=_ from hv];have h3:rK z:=h2;unfold rK at h3;show Value.int .u8 z=.int .u8 ((b4 z).toNat:Int);congr 1;unfold b4;simp;omega)]
      simp [al.aM,Function.comp_def]
     show Sl G' _ false 0 1 _ _;rw [<-this,<-hs1];exact t2
    ·exact h.bad.elim
   ·rename_i l hr
    split at h
    ·rename_i ha
     rw [Bool.and_eq_true]at ha;have hs1:=Nat.eq_of_beq_eq_true ha.2;rw [<-h.ok];have:vs=(al.strs (xs.map PV.dS)).aM:=by
      rw [aw.sb (f:=fun x=>Value.string ⟨x.dS.toArray⟩) hx (fun x hx v hv=>by
       have h1:=nA ha.1 x hx;cases x<;>first|(cases h1;done)|skip
       rw [show v=_ from hv];rfl)]
      simp [al.aM,Function.comp_def]
     show Sl G' _ false 0 1 _ _;rw [<-this,<-hs1];exact t2
    ·exact h.bad.elim
   ·rename_i k l hr
    split at h
    ·rename_i ha
     rw [Bool.and_eq_true]at ha;have hs1:=Nat.eq_of_beq_eq_true ha.2;rw [<-h.ok];have:vs=(al.ints k (xs.map PV.asInt)).aM:=by
      rw [aw.sb (f:=fun x=>Value.int k x.asInt) hx (fun x hx v hv=>by
       have h1:=nA ha.1 x hx;cases x<;>first|(cases h1;done)|skip
       rename_i j z;have:=dk (show sameKind k j=true from h1);subst this;rw [show v=_ from hv];rfl)]
      simp [al.aM,Function.comp_def]
     show Sl G' _ false 0 1 _ _;rw [<-this,<-hs1];exact t2
    ·exact h.bad.elim
   ·rw [<-h.ok]
    refine ⟨vs,?_,fun u hu=>hvs u hu,t2⟩;have h1:aw (xs.map (typed P e 0)) G.deep w vs:=by
     have:∀{l:List PV} {us:List Value},PV.aC PV.bM l=[]->PV.aC PV.bU l=[]->aw l G w us->aw (l.map (typed P e 0)) G.deep w us:=by
      intro l
      induction l with
      |nil=>intro us _ _ h;exact h
      |cons x l ih=>
       intro us h1 h2 h;obtain ⟨u,us',rfl,g1,g4⟩:=h;obtain ⟨p1,p2⟩:=ei h1;obtain ⟨q1,q2⟩:=ei h2;exact ⟨u,us',rfl,aN.fa (by rw [vv.1];exact p1) (by rw [vv.2];exact q1) (eA g1),ih p2 q2 g4⟩
     exact this ht hn hx
    exact aw.deep (G:=G) (G':=G') t1.le h1
  ·exact h.bad.elim
 ·exact h.bad.elim
theorem lY(z:Array Value)(hz:0<z.size):∀n:Nat,((List.range (n*z.size)).map fun i=>z[i %z.size]!)=(List.replicate n z.toList).flatten
 |0=>by simp
 |n+1=>by
  rw [List.replicate_succ',List.flatten_concat,<-lY z hz n,Nat.succ_mul,List.range_add,List.map_append,List.map_map];congr 1;apply List.ext_getElem
  ·simp
  ·intro i h1 h2
   have hi:i<z.size:=by simpa using h1
   simp [Function.comp_def,Nat.mod_eq_of_lt hi,hi]
theorem lZ {x:PV}{u:Value}(h:aN x G w u):∀n,aw (List.replicate n x) G w (List.replicate n u)
 |0=>rfl
 |n+1=>⟨u,List.replicate n u,rfl,h,lZ h n⟩
theorem xo {t:TypeId}{x y v:PV}{d:Option Tmp}{f:Option (PV->PV)}{lh':List (Nat×PV)}{a b:Value}(hi:Inv cx G lh w)(h:(ml P t x y d lh).Is v f lh lh')(ha:aN x G w a)(hb:aN y G w b):
 ∃u G' w',(Instr.makeSlice t a b).run P w=.ok u w'/\dI cx G w f lh' G' w'/\aN v G' w' u:=by
 unfold ml at h;split at h
 ·rename_i e k1 n k2 c tk hd hnm
  split at h
  ·rename_i hel
   obtain ⟨e1,e2,i,z,hi1,hz1,hs1,hzs,hby,fz⟩:=vo hel;have ht:tk≠0:=by have:=jK hnm;omega
   have hft:cH tk tk≠some tk:=by
    show some (bif Nat.beq tk tk then 0 else tk)≠some tk
    rw [Nat.beq_refl];intro e;injection e with e;exact ht e.symm
   have main:0<=n/\n<=c/\c<=16777216->∃u G' w',(Instr.makeSlice t a b).run P w=.ok u w'/\dI cx G w (some (PV.aO (cH tk))) (cT (PV.aO (cH tk)) lh) G' w'/\Sl G' w' false tk (aY P e) (List.replicate n.toNat z) u:=by
    intro hn;rw [show a=_ from ha,show b=_ from hb];obtain ⟨N,rfl⟩:∃N:Nat,n=N:=⟨n.toNat,by omega⟩;obtain ⟨C,rfl⟩:∃C:Nat,c=C:=⟨c.toNat,by omega⟩;have hwn:IntKind.i64.wrap (N:Int)=N:=IntWalk.i64_in _ ⟨by omega,by omega⟩;have hwc:IntKind.i64.wrap (C:Int)=C:=IntWalk.i64_in _ ⟨by omega,by omega⟩;have hbb:(i.bytes:Int)*(C:Int)<=1099511627776:=by
     have:i.bytes*C<=65536*16777216:=Nat.mul_le_mul hby (by omega);have e:((i.bytes*C:Nat):Int)=(i.bytes:Int)*(C:Int):=by simp
     omega
    have hcond:((((decide ((C:Int)<0)||decide ((i.bytes:Int)*(C:Int)>2^48))||decide ((N:Int)<0))||decide ((N:Int)>(C:Int)))=true)=False:=by
     have hbig:¬((i.bytes:Int)*(C:Int)>2^48):=by
      rw [show(2:Int)^48=281474976710656 by decide];omega
     have h1:¬((C:Int)<0):=by omega
     have h2:¬((N:Int)<0):=by omega
     have h3:¬((N:Int)>(C:Int)):=by omega
     simp only [decide_eq_false h1,decide_eq_false h2,decide_eq_false h3,decide_eq_false hbig];simp
    obtain ⟨cells,r1,r2,hcs⟩:∃cells:Array Value,(Instr.makeSlice t (.int k1 N) (.int k2 C)).run P w=.ok (.slice (some ⟨w.heap.size,0,none⟩) N C) (w.alloc (.cells cells e))/\cells.toList=(List.replicate C z.cells.toList).flatten/\cells.size=C*aY P e:=by
     by_cases h0:C*aY P e=0
     ·refine ⟨(Array.range (C*aY P e)).map (fun x=>(#[]:Array Value)[x %(#[]:Array Value).size]!),?_,?_,by simp⟩
      ·unfold Instr.makeSlice typeInfo asInt
       simp only [Sem.run_bind,run_program,Result.andThen_ok,hi1,Sem.run_pure,run_underlying hd,dp,hwn,hwc,Sem.run_ite,run_askRoom,cF e1];rw [if_neg (by rw [hcond];exact id)];simp only [Int.toNat_natCast];rw [if_pos h0];rfl
      ·rw [h0]
       have:(List.replicate C z.cells.toList).flatten=[]:=by
        rcases Nat.mul_eq_zero.1 h0 with h|h
        ·subst h;rfl
        ·have hz0:z.cells.toList=[]:=List.eq_nil_of_length_eq_zero (by rw [Array.length_toList,hzs];exact h)
         rw [hz0];simp
       rw [this];simp
     ·refine ⟨(Array.range (C*aY P e)).map (fun x=>z.cells[x %z.cells.size]!),?_,?_,by simp⟩
      ·unfold Instr.makeSlice zeroValue typeInfo asInt
       simp only [Sem.run_bind,run_program,Result.andThen_ok,hi1,hz1,Sem.run_pure,run_underlying hd,dp,hwn,hwc,Sem.run_ite,run_askRoom,cF e1];rw [if_neg (by rw [hcond];exact id)];simp only [Int.toNat_natCast];rw [if_neg h0];rfl
      ·have hpos:0<z.cells.size:=by
        rw [hzs];exact Nat.pos_of_ne_zero fun e=>h0 (by rw [e,Nat.mul_zero])
       have hsz:z.cells.size=aY P e:=hzs;rw [<-lY z.cells hpos C,hsz];simp
    have hfl:∀m,((List.replicate m z).flatMap fun u=>u.cells.toList)=(List.replicate m z.cells.toList).flatten:=by
     intro m
     induction m with
     |zero=>rfl
     |succ m ih=>rw [List.replicate_succ,List.flatMap_cons,ih,List.replicate_succ,List.flatten_cons]
    obtain ⟨s1,s2⟩:=r9 (w':=w.alloc (.cells cells e)) (us:=List.replicate N z) (sz:=aY P e) (cap:=C) hi (jJ tk) hft ht rfl rfl rfl rfl (fun j hj hh=>by have:=hh.2;simp at this) (Nat.le_of_eq hcs.symm) (by simp;omega) (fun j q hj=>by
     rw [hfl]at hj;rw [<-Array.getElem?_toList,r2];have:(List.replicate C z.cells.toList).flatten=(List.replicate N z.cells.toList).flatten++(List.replicate (C-N) z.cells.toList).flatten:=by
      rw [<-List.flatten_append,List.replicate_append_replicate,show N+(C-N)=C by omega]
     rw [this,List.getElem?_append_left (List.getElem?_eq_some_iff.1 hj).1];exact hj)
    rw [List.length_replicate]at s2;exact ⟨_,_,_,r1,s1,s2⟩
   have row:∀(r:al) (zv:Value),z=zv->aY P e=1->r.aM=List.replicate n.toNat zv->0<=n/\n<=c/\c<=16777216->∃u G' w',(Instr.makeSlice t a b).run P w=.ok u w'/\dI cx G w (some (PV.aO (cH tk))) (cT (PV.aO (cH tk)) lh) G' w'/\aN (.row false r tk) G' w' u:=by
    intro r zv hzv hsz hv hn;obtain ⟨u,G',w',r1,r2,r3⟩:=main hn;refine ⟨u,G',w',r1,r2,?_⟩;show Sl G' w' false tk 1 r.aM u;rw [hv,<-hzv,<-hsz];exact r3
   have zi:∀k,P.underlying e=some (.int k)->zeroV P 5 e 0=.int k 0->z=.int k 0/\aY P e=1:=fun k _ hz=>by
    have:=(fz G w).rep;rw [hz]at this;refine ⟨this,?_⟩;rw [<-hzs,(fz G w).wid,hz];rfl
   have zs:zeroV P 5 e 0=.str []->z=.string ⟨#[]⟩/\aY P e=1:=fun hz=>by
    have:=(fz G w).rep;rw [hz]at this;refine ⟨this,?_⟩;rw [<-hzs,(fz G w).wid,hz];rfl
   dsimp only at h;split at h
   ·rename_i l hr
    obtain ⟨hn,rfl,rfl,rfl⟩:=h;unfold lS at hr;split at hr
    ·rename_i hu
     obtain ⟨g1,g2⟩:=zi _ hu (by unfold zeroV;rw [hu]);exact row _ _ g1 g2 (by simp [al.aM]) hn
    ·cases hr
    ·cases hr
    ·cases hr
   ·rename_i l hr
    obtain ⟨hn,rfl,rfl,rfl⟩:=h;unfold lS at hr;split at hr
    ·cases hr
    ·rename_i hu
     obtain ⟨g1,g2⟩:=zs (by unfold zeroV;rw [hu]);exact row _ _ g1 g2 (by simp [al.aM]) hn
    ·cases hr
    ·cases hr
   ·rename_i k l hr
    obtain ⟨hn,rfl,rfl,rfl⟩:=h;unfold lS at hr;split at hr
    ·cases hr
    ·cases hr
    ·rename_i k' hne hu
     injection hr with hr;injection hr with hr1 hr2;subst hr1
     obtain ⟨g1,g2⟩:=zi _ hu (by unfold zeroV;rw [hu]);exact row _ _ g1 g2 (by simp [al.aM]) hn
    ·cases hr
   ·obtain ⟨hn,rfl,rfl,rfl⟩:=h
    obtain ⟨u,G',w',r1,r2,r3⟩:=main hn;exact ⟨u,G',w',r1,r2,_,lZ (fz _ _).rep n.toNat,(fun u hu=>by
     rw [List.eq_of_mem_replicate hu];exact ⟨hzs,(fz G w).flat⟩),r3⟩
  ·exact h.elim
 ·exact h.elim
theorem ks(w:World)(e:TypeId)(s:ByteArray):(Lib.bytesWorld w e s).heap=w.heap.push (.cells (Lib.bytesCells w e s) e ((Lib.bytesCells w e s).size,(Lib.bytesCells w e s).size+1)):=by
 apply Array.ext_getElem?;intro i;rw [Array.getElem?_push];by_cases h:i=w.heap.size
 ·subst h;rw [if_pos rfl];exact Lib.bytesWorld_at_new w e s
 ·rw [if_neg h]
  by_cases h2:i<w.heap.size
  ·exact Lib.bytesWorld_at_old w e s i h2
  ·rw [Array.getElem?_eq_none (by rw [Lib.bytesWorld_size];omega),Array.getElem?_eq_none (by omega)]
theorem foldl_push(ns:List Int):∀s:ByteArray,ns.foldl (fun r n=>r.push (UInt8.ofNat n.toNat)) s=⟨s.data++(ns.map fun n=>UInt8.ofNat n.toNat).toArray⟩:=by
 induction ns with
 |nil=>intro s;simp
 |cons n ns ih=>intro s;rw [List.foldl_cons,ih];congr 1;simp [ByteArray.push]
theorem sd {s d:TypeId}{x v:PV}{a:Value}(hi:Inv cx G lh w)(h:(lX P s d x).Is v)(ha:aN x G w a):∃u G' w',(convert s d a).run P w=.ok u w'/\dI cx G w none lh G' w'/\aN v G' w' u:=by
 cases hq:vf P s d with
 |true=>
  obtain ⟨u,r1,r2⟩:=Mm hq h ha;exact ⟨u,G,w,r1 w,.refl hi,r2⟩
 |false=>
  unfold lX at h;split at h
  ·rename_i k1 k k2 z h1 h2;unfold vf at hq;rw [h1,h2]at hq;cases hq
  ·rename_i l h1 h2;unfold vf at hq;rw [h1,h2]at hq;cases hq
  ·rename_i e l h1 h2
   split at h
   ·rename_i q hr
    obtain ⟨hl,rfl⟩:=h.cE;rw [show a=_ from ha];have he:P.underlying e=some (.int .u8):=by
     unfold lS at hr;split at hr
     ·assumption
     ·cases hr
     ·cases hr
     ·cases hr
    have hb:Below w.heap.size w (Lib.bytesWorld w e ⟨l.toArray⟩):=⟨rfl,rfl,rfl,by rw [Lib.bytesWorld_size];omega,fun k hk=>Lib.bytesWorld_at_old w e _ k hk⟩;have hls:(⟨l.toArray⟩:ByteArray).size=l.length:=by simp [ByteArray.size]
    have hvl:(al.bytes l).aM.length=l.length:=by simp [al.aM]
    have hge:=grownCap_ge w (⟨l.toArray⟩:ByteArray).size 0 e;obtain ⟨G',t1,t2⟩:=vr (sz:=1) (us:=(al.bytes l).aM) (cap:=grownCap w (⟨l.toArray⟩:ByteArray).size 0 e) (xs:=Lib.bytesCells w e ⟨l.toArray⟩) (e:=e) (fz:=((Lib.bytesCells w e ⟨l.toArray⟩).size,(Lib.bytesCells w e ⟨l.toArray⟩).size+1)) hi hb (by rw [ks];simp) (by rw [hvl];omega) (fun j c hj=>by
     have hfl:((al.bytes l).aM.flatMap fun u=>u.cells.toList)=(al.bytes l).aM:=by
      have h3:∀l:List Value,(∀u∈l,ez u=true)->(l.flatMap fun u=>u.cells.toList)=l:=by
       intro l hl
       induction l with
       |nil=>rfl
       |cons u l ih=>rw [List.flatMap_cons,ih (fun v hv=>hl v (List.mem_cons_of_mem _ hv)),cells_one (hl u (List.mem_cons_self ..))];rfl
      exact h3 _ (dF _)
     rw [hfl]at hj;have hlt:=(List.getElem?_eq_some_iff.1 hj).1;unfold Lib.bytesCells;rw [Array.getElem?_append_left (by simpa [al.aM]using hlt)];simpa [al.aM]using hj)
    refine ⟨_,G',_,Lib.run_convert_string_bytes w s d e ⟨l.toArray⟩ h1 h2 he,t1,?_⟩;show Sl G' _ false 0 1 _ _;rw [hls];rw [hvl]at t2;rw [hls]at t2;exact t2
   ·exact h.bad.elim
  ·rename_i e nl l tk h1 h2
   split at h
   ·rename_i q hr
    rw [<-h.ok];have he:P.underlying e=some (.int .u8):=by
     unfold lS at hr;split at hr
     ·assumption
     ·cases hr
     ·cases hr
     ·cases hr
    rcases (show Sl G w nl tk 1 (al.bytes l).aM a from ha)with⟨-,hv,rfl⟩|⟨-,b,o,cap,rfl,k2,k3⟩
    ·have hl:l=[]:=by cases l with |nil=>rfl|cons x l=>simp [al.aM]at hv
     subst hl;refine ⟨.string ⟨#[]⟩,G,w,?_,.refl hi,rfl⟩;rw [run_convert_bytes_string w s d e _ _ _ h1 he h2];rfl
    ·refine ⟨.string ⟨l.toArray⟩,G,w,?_,.refl hi,rfl⟩
     have hfl:((al.bytes l).aM.flatMap fun u=>u.cells.toList)=(al.bytes l).aM:=by
      have h3:∀l:List Value,(∀u∈l,ez u=true)->(l.flatMap fun u=>u.cells.toList)=l:=by
       intro l hl
       induction l with
       |nil=>rfl
       |cons u l ih=>rw [List.flatMap_cons,ih (fun v hv=>hl v (List.mem_cons_of_mem _ hv)),cells_one (hl u (List.mem_cons_self ..))];rfl
      exact h3 _ (dF _)
     rw [hfl]at k3;have hld:=run_loadCells_list (P:=P) w ⟨b,o,none⟩ (al.bytes l).aM (fun j c hj=>by rw [Addr.add_lit];exact k3.cell hi hj);rw [run_convert_bytes_string w s d e _ _ _ h1 he h2,run_bytesToString w _ _ cap (l.map fun(c:UInt8)=>((c.toNat:Nat):Int))]
     ·rw [foldl_push]
      show Result.ok (Value.string ⟨#[]++_⟩) w=_;rw [Array.empty_append,List.map_map];congr 3;simp [Function.comp_def]
     ·rw [hld]
      simp [al.aM,Function.comp_def]
   ·exact h.bad.elim
  ·exact h.bad.elim
theorem eN.dx {r:eN}{v:PV}{f:Option (PV->PV)}{lh':List (Nat×PV)}(h:r.at.Is v f lh lh'):r.Is v/\f=none/\lh'=lh:=by
 cases r with
 |ok x=>obtain ⟨rfl,h2,h3⟩:=h;exact ⟨.inl rfl,h2,h3⟩
 |cE p x=>obtain ⟨hp,rfl,h2,h3⟩:=h;exact ⟨.inr ⟨p,rfl,hp⟩,h2,h3⟩
 |bad n=>exact h.elim
theorem Jt {s d:TypeId}{x v:PV}{t:Option Tmp}{f:Option (PV->PV)}{lh':List (Nat×PV)}{a:Value}(hi:Inv cx G lh w)(h:(EK P s d x t lh).Is v f lh lh')(ha:aN x G w a):∃u G' w',(convert s d a).run P w=.ok u w'/\dI cx G w f lh' G' w'/\aN v G' w' u:=by
 unfold EK at h;split at h
 ·rename_i p l n hr hnm
  obtain ⟨hp,rfl,rfl,rfl⟩:=h;unfold lX at hr;split at hr
  ·cases hr
  ·cases hr
  ·rename_i e l' h1 h2
   split at hr
   ·rename_i q hrt
    injection hr with e1 e2
    injection e2 with e3 e4 e5
    injection e4 with e4
    subst e4;rw [show a=_ from ha];have he:P.underlying e=some (.int .u8):=by
     unfold lS at hrt;split at hrt
     ·assumption
     ·cases hrt
     ·cases hrt
     ·cases hrt
    have ht:n≠0:=by have:=jK hnm;omega
    have hft:cH n n≠some n:=by
     show some (bif Nat.beq n n then 0 else n)≠some n
     rw [Nat.beq_refl];intro e;injection e with e;exact ht e.symm
    have hls:(⟨l'.toArray⟩:ByteArray).size=l'.length:=by simp [ByteArray.size]
    have hvl:(al.bytes l').aM.length=l'.length:=by simp [al.aM]
    have hge:=grownCap_ge w (⟨l'.toArray⟩:ByteArray).size 0 e;have hfl:((al.bytes l').aM.flatMap fun u=>u.cells.toList)=(al.bytes l').aM:=oT (dF _);obtain ⟨s1,s2⟩:=r9 (w':=Lib.bytesWorld w e ⟨l'.toArray⟩) (us:=(al.bytes l').aM) (sz:=1) (cap:=grownCap w (⟨l'.toArray⟩:ByteArray).size 0 e) (xs:=Lib.bytesCells w e ⟨l'.toArray⟩) (e:=e) (fz:=((Lib.bytesCells w e ⟨l'.toArray⟩).size,(Lib.bytesCells w e ⟨l'.toArray⟩).size+1)) hi (jJ n) hft ht (ks ..) rfl rfl rfl
     (fun j hj hh=>by have:=hh.1;dsimp only at this;omega) (by
       rw [Nat.mul_one];unfold Lib.bytesCells;simp [hls];omega) (by rw [hvl];omega) (fun j c hj=>by
     rw [hfl]at hj;have hlt:=(List.getElem?_eq_some_iff.1 hj).1;unfold Lib.bytesCells;rw [Array.getElem?_append_left (by simpa [al.aM]using hlt)];simpa [al.aM]using hj)
    refine ⟨_,_,_,Lib.run_convert_string_bytes w s d e ⟨l'.toArray⟩ h1 h2 he,s1,?_⟩;show Sl _ _ false n 1 (al.bytes l').aM _;rw [hls];rw [hvl,hls]at s2;exact s2
   ·cases hr
  ·split at hr<;>cases hr
  ·cases hr
 ·obtain ⟨h3,rfl,rfl⟩:=eN.dx h
  exact sd hi h3 ha
end
section
variable {P:Program} {cx:Cx} {G:Gh} {lh:List (Nat×PV)} {w:World}
def Fits(F:Nat->Nat->Option Value)(w:World):Prop:=∀b o u,F b o=some u->w.cell? ⟨b,o,none⟩=some u
def kt(F:Nat->Nat->Option Value):Gh:=⟨fun _=>none,fun _=>none,F⟩
def Came(F:Nat->Nat->Option Value)(w:World)(r:PV)(u:Value)(w':World):Prop:=
 ∃F' τ',Below w.heap.size w w'/\gm F F'/\Fits F' w'/\(∀b o u,F' b o=some u->F b o=some u\/w.heap.size<=b)/\(∀t b,τ' t=some b->w.heap.size<=b/\b<w'.heap.size/\∀o,F' b o=none)/\aN r ⟨fun _=>none,τ',F'⟩ w' u
structure Mq(F:Nat->Nat->Option Value)(bs:List Nat)(τ:Nat->Option Nat)(w:World)(ins:List PV):Prop where
 len:bs.length=ins.length
 nd:∀(i j b:Nat),bs[i]?=some b->bs[j]?=some b->i=j
 bF:∀b∈bs,∀o,F b o=none
 mks:∀t b,τ t=some b->t≠0/\t<64/\b<w.heap.size/\(∀o,F b o=none)/\b∉bs
 inj:∀t t' b,τ t=some b->τ t'=some b->t=t'
 box:∀(i:Nat) (x:PV),ins[i]?=some x->∃b:Nat,bs[i]?=some b/\fK ⟨fun i=>bs[i]?,τ,F⟩ w b x
def kO(F:Nat->Nat->Option Value)(bs:List Nat)(τ:Nat->Option Nat)(w:World)(r:PV)(outs:List PV)(u:Value)(w':World):Prop:=
 ∃F' τ',w'.os=w.os/\w'.tape=w.tape/\w'.output=w.output/\w.heap.size<=w'.heap.size/\(∀k,k<w.heap.size->k∉bs->(∀t,τ t≠some k)->w'.heap[k]?=w.heap[k]?)/\gm F F'/\Fits F' w'/\
  (∀b o u,F' b o=some u->F b o=some u\/w.heap.size<=b\/∃t,τ t=some b)/\(∀t b,τ' t=some b->w.heap.size<=b\/∃t',τ t'=some b)/\Mq F' bs τ' w' outs/\aN r (kt F') w' u
def bE [Wd](P:Program)(T:cO)(f:FuncId)(args ins:List PV)(pre:Prop)(r:PV)(outs:List PV):Prop:=
 pre->∀(F:Nat->Nat->Option Value) (w:World) (vs:List Value) (bs:List Nat) (τ:Nat->Option Nat),Fits F w->mq T F->Wd.wd w->(∀b∈bs,Wd.lim<=b)->(∀t b,τ t=some b->Wd.lim<=b)->Mq F bs τ w ins->aw args ⟨fun i=>bs[i]?,τ,F⟩ w vs->
  ((callFunc f vs.toArray).run P w=.ok (.enter f vs.toArray) w/\Calls P f vs.toArray w fun e w'=>∃u,e=.returned u/\kO F bs τ w r outs u w')\/
  (∃u w',(callFunc f vs.toArray).run P w=.ok (.value u) w'/\kO F bs τ w r outs u w')
def ae [Wd](P:Program)(T:cO)(f:FuncId)(xs:List PV)(c:aD):Prop:=match PV.aC PV.bU xs with
 |[]=>c.pre->∀(F:Nat->Nat->Option Value) (w:World) (vs:List Value),Fits F w->mq T F->Wd.wd w->aw xs (kt F) w vs->
  ((callFunc f vs.toArray).run P w=.ok (.enter f vs.toArray) w/\Calls P f vs.toArray w fun e w'=>∃u,e=.returned u/\Came F w c.r u w')\/
  (∃u w',(callFunc f vs.toArray).run P w=.ok (.value u) w'/\Came F w c.r u w')
 |_=>∀r outs,c.r=.tup (r::outs)->bE P T f (xs.take (xs.length-outs.length)) (xs.drop (xs.length-outs.length)) c.pre r outs
theorem ae.plain [Wd]{T:cO}{f:FuncId}{xs:List PV}{c:aD}(h:ae P T f xs c)(hn:PV.aC PV.bU xs=[]):c.pre->∀(F:Nat->Nat->Option Value) (w:World) (vs:List Value),Fits F w->mq T F->Wd.wd w->aw xs (kt F) w vs->
 ((callFunc f vs.toArray).run P w=.ok (.enter f vs.toArray) w/\Calls P f vs.toArray w fun e w'=>∃u,e=.returned u/\Came F w c.r u w')\/
 (∃u w',(callFunc f vs.toArray).run P w=.ok (.value u) w'/\Came F w c.r u w'):=by
 unfold ae at h;rw [hn]at h;exact h
theorem ae.nB [Wd]{T:cO}{f:FuncId}{xs:List PV}{c:aD}(hn:PV.aC PV.bU xs=[])(h:c.pre->∀(F:Nat->Nat->Option Value) (w:World) (vs:List Value),Fits F w->mq T F->Wd.wd w->aw xs (kt F) w vs->
 ((callFunc f vs.toArray).run P w=.ok (.enter f vs.toArray) w/\Calls P f vs.toArray w fun e w'=>∃u,e=.returned u/\Came F w c.r u w')\/
 (∃u w',(callFunc f vs.toArray).run P w=.ok (.value u) w'/\Came F w c.r u w')):ae P T f xs c:=by
 unfold ae;rw [hn];exact h
theorem ae.P5 [Wd]{T:cO}{f:FuncId}{xs:List PV}{c:aD}(h:ae P T f xs c)(hn:PV.aC PV.bU xs≠[]){r:PV}{outs:List PV}(hr:c.r=.tup (r::outs)):bE P T f (xs.take (xs.length-outs.length)) (xs.drop (xs.length-outs.length)) c.pre r outs:=by
 unfold ae at h;split at h
 ·rename_i hn';exact absurd hn' hn
 ·exact h r outs hr
theorem ae.aZ [Wd]{T:cO}{f:FuncId}{xs:List PV}{pre:Prop}{r:PV}{outs:List PV}(hn:PV.aC PV.bU xs≠[])(h:bE P T f (xs.take (xs.length-outs.length)) (xs.drop (xs.length-outs.length)) pre r outs):ae P T f xs ⟨pre,.tup (r::outs)⟩:=by
 unfold ae;split
 ·rename_i hn';exact absurd hn' hn
 ·intro r' outs' e
  injection e with e
  injection e with e1 e2
  subst e1;subst e2;exact h
def df [Wd](P:Program)(T:cO)(X:cM):Prop:=∀f xs c,X f xs=some c->ae P T f xs c
theorem mq.mono {T:cO}{F F':Nat->Nat->Option Value}(h:mq T F)(hl:gm F F'):mq T F':=fun g hg=>by
 obtain ⟨u,h1,h2⟩:=h g hg;exact ⟨u,fun G w hF=>h1 G w (hl.trans hF),fun o c hc=>hl _ _ _ (h2 o c hc)⟩
theorem Inv.Oe {w':World}{F':Nat->Nat->Option Value}(h:Inv cx G lh w)(hb:Below w.heap.size w w')(hle:gm G.F F')(hf:Fits F' w')(hn:∀b o u,F' b o=some u->G.F b o=some u\/w.heap.size<=b):dI cx G w none lh ⟨G.σ,G.τ,F'⟩ w':=by
 obtain ⟨h',hr⟩:=h.more hb;have hr2:∀y v,aN y G w' v->aN y ⟨G.σ,G.τ,F'⟩ w' v:=fun y v=>aN.same (G:=G) (G':=⟨G.σ,G.τ,F'⟩) (w:=w') (w':=w') hle (fun _ _ h=>h) (fun t b ht=>⟨ht,rfl⟩);have hno:∀{b:Nat},b<w.heap.size->(∀o,G.F b o=none)->∀o,F' b o=none:=fun {b} hlt hF o=>by
  cases hu:F' b o with
  |none=>rfl
  |some u=>
   rcases hn b o u hu with h1|h1
   ·rw [hF]at h1;cases h1
   ·omega
 refine ⟨⟨hf,h.base.trans hle,fun b o u hu=>?_,fun n x hx=>?_,fun n b hb'=>?_,fun t b ht=>?_,h.injσ,h.injτ,h.disj,h.par,h'.kept⟩,fun y v hy=>hr2 y v (hr y v hy),hle⟩
 ·rcases hn b o u hu with h1|h1
  ·exact h.ext b o u h1
  ·exact .inr (.inr (Nat.le_trans h.kept.size h1))
 ·obtain ⟨b,h1,h2⟩:=h'.box n x hx
  exact ⟨b,h1,h2.same rfl hr2⟩
 ·obtain ⟨h1,h2,h3⟩:=h.boxF n b hb'
  exact ⟨h1,hno (h.σlt hb') h2,h3⟩
 ·obtain ⟨h1,h2,h3,h4⟩:=h'.mark t b ht
  exact ⟨h1,h2,hno (h.mark t b ht).2.1 h3,h4⟩
theorem Inv.OV {w':World}{F':Nat->Nat->Option Value}(h:Inv cx G lh w)(hb:Below w.heap.size w w')(hle:gm G.F F')(hf:Fits F' w')(hn:∀b o u,F' b o=some u->G.F b o=some u\/w.heap.size<=b)
 {K b0:Nat}(hK0:K≠0)(hK:G.τ K=none)(hb0:w.heap.size<=b0)(hb1:b0<w'.heap.size)(hb2:∀o,F' b0 o=none):dI cx G w none lh ⟨G.σ,fun t=>if t=K then some b0 else G.τ t,F'⟩ w':=by
 obtain ⟨h',hr⟩:=h.more hb;have hle':∀t b,G.τ t=some b->(if t=K then some b0 else G.τ t)=some b:=fun t b ht=>by
  by_cases e:t=K
  ·rw [e,hK]at ht;cases ht
  ·rw [if_neg e];exact ht
 have hr2:∀y v,aN y G w' v->aN y ⟨G.σ,fun t=>if t=K then some b0 else G.τ t,F'⟩ w' v:=fun y v=>aN.same (G:=G) (G':=⟨G.σ,fun t=>if t=K then some b0 else G.τ t,F'⟩) (w:=w') (w':=w') hle (fun _ _ h=>h) (fun t b ht=>⟨hle' t b ht,rfl⟩)
 have hno:∀{b:Nat},b<w.heap.size->(∀o,G.F b o=none)->∀o,F' b o=none:=fun {b} hlt hF o=>by
  cases hu:F' b o with
  |none=>rfl
  |some u=>
   rcases hn b o u hu with h1|h1
   ·rw [hF]at h1;cases h1
   ·omega
 have old:∀t b,(if t=K then some b0 else G.τ t)=some b->(t=K/\b=b0)\/G.τ t=some b:=fun t b ht=>by
  by_cases e:t=K
  ·rw [if_pos e]at ht;injection ht with ht;exact .inl ⟨e,ht.symm⟩
  ·rw [if_neg e]at ht;exact .inr ht
 refine ⟨⟨hf,h.base.trans hle,fun b o u hu=>?_,fun n x hx=>?_,fun n b hb'=>?_,fun t b ht=>?_,h.injσ,fun t t' b g1 g2=>?_,fun n t b g1 g2=>?_,h.par,h'.kept⟩,fun y v hy=>hr2 y v (hr y v hy),hle⟩
 ·rcases hn b o u hu with h1|h1
  ·exact h.ext b o u h1
  ·exact .inr (.inr (Nat.le_trans h.kept.size h1))
 ·obtain ⟨b,h1,h2⟩:=h'.box n x hx
  exact ⟨b,h1,h2.same rfl hr2⟩
 ·obtain ⟨h1,h2,h3⟩:=h.boxF n b hb'
  exact ⟨h1,hno (h.σlt hb') h2,h3⟩
 ·rcases old t b ht with⟨rfl,rfl⟩|ht
  ·exact ⟨hK0,hb1,hb2,.inr (Nat.le_trans h.kept.size hb0)⟩
  ·obtain ⟨h1,h2,h3,h4⟩:=h'.mark t b ht
   exact ⟨h1,h2,hno (h.mark t b ht).2.1 h3,h4⟩
 ·rcases old t b g1 with⟨e1,e2⟩|e1<;>rcases old t' b g2 with⟨e3,e4⟩|e3
  ·rw [e1,e3]
  ·have:=(h.mark t' b e3).2.1;omega
  ·have:=(h.mark t b e1).2.1;omega
  ·exact h.injτ t t' b e1 e3
 ·rcases old t b g2 with⟨rfl,rfl⟩|g2
  ·have:=h.σlt g1;omega
  ·exact h.disj n t b g1 g2
mutual
theorem j3 {f g:PV->PV}(p:PV->Prop):∀{x:PV},(∀y:PV,y.leaf=true->p y->f y=g y)->(∀y:PV,y.leaf=true->(y.bM=[]\/∀t∈y.bM,t∈PV.ee PV.bM x)->p y)->x.cC f=x.cC g
 |.agg l,h,hp=>by simp only [PV.cC];rw [ej p h hp]
 |.tup l,h,hp=>by simp only [PV.cC];rw [ej p h hp]
 |.fn q a b,h,hp=>by
  simp only [PV.cC];rw [ej (l:=a) p h (fun y hl ht=>hp y hl (ht.imp id fun ht t hm=>List.mem_append_left _ (ht t hm))),ej (l:=b) p h (fun y hl ht=>hp y hl (ht.imp id fun ht t hm=>List.mem_append_right _ (ht t hm)))]
 |.undef,h,hp=>h _ rfl (hp _ rfl (.inl rfl))
 |.int k z,h,hp=>h _ rfl (hp _ rfl (.inl rfl))
 |.bool b,h,hp=>h _ rfl (hp _ rfl (.inl rfl))
 |.str l,h,hp=>h _ rfl (hp _ rfl (.inl rfl))
 |.raw u,h,hp=>h _ rfl (hp _ rfl (.inl rfl))
 |.arr n r,h,hp=>h _ rfl (hp _ rfl (.inl rfl))
 |.row nl r t,h,hp=>h _ rfl (hp _ rfl (.inr fun t ht=>ht))
 |.vec nl sz l t,h,hp=>h _ rfl (hp _ rfl (.inr fun t ht=>ht))
 |.ep r t i,h,hp=>h _ rfl (hp _ rfl (.inr fun t ht=>ht))
 |.epv sz l t i off,h,hp=>h _ rfl (hp _ rfl (.inr fun t ht=>ht))
 |.ptr n off,h,hp=>h _ rfl (hp _ rfl (.inl rfl))
 |.pix n off i,h,hp=>h _ rfl (hp _ rfl (.inl rfl))
 |.asl n off lo len,h,hp=>h _ rfl (hp _ rfl (.inl rfl))
 |.gp g off,h,hp=>h _ rfl (hp _ rfl (.inl rfl))
 |.gix g off i,h,hp=>h _ rfl (hp _ rfl (.inl rfl))
theorem ej {f g:PV->PV}(p:PV->Prop):∀{l:List PV},(∀y:PV,y.leaf=true->p y->f y=g y)->(∀y:PV,y.leaf=true->(y.bM=[]\/∀t∈y.bM,t∈PV.aC PV.bM l)->p y)->PV.bh f l=PV.bh g l
 |[],h,hp=>rfl
 |x::l,h,hp=>by
  simp only [PV.bh];rw [j3 (x:=x) p h (fun y hl ht=>hp y hl (ht.imp id fun ht t hm=>List.mem_append_left _ (ht t hm))),ej (l:=l) p h (fun y hl ht=>hp y hl (ht.imp id fun ht t hm=>List.mem_append_right _ (ht t hm)))]
end
mutual
theorem nC:∀x:PV,PV.ee PV.bM (x.cC (PV.aO dC))=[]/\PV.ee PV.bU (x.cC (PV.aO dC))=PV.ee PV.bU x
 |.agg l=>eW l
 |.tup l=>eW l
 |.fn q a b=>by
  obtain ⟨a1,a2⟩:=eW a;obtain ⟨b1,b2⟩:=eW b;exact ⟨by show _ ++_=_;rw [a1,b1];rfl,by show _ ++_=_ ++_;rw [a2,b2]⟩
 |.undef=>⟨rfl,rfl⟩
 |.int k z=>⟨rfl,rfl⟩
 |.bool b=>⟨rfl,rfl⟩
 |.str l=>⟨rfl,rfl⟩
 |.raw u=>⟨rfl,rfl⟩
 |.arr n r=>⟨rfl,rfl⟩
 |.row nl r t=>⟨rfl,rfl⟩
 |.vec nl sz l t=>⟨rfl,rfl⟩
 |.ep r t i=>⟨rfl,rfl⟩
 |.epv sz l t i off=>⟨rfl,rfl⟩
 |.ptr n off=>⟨rfl,rfl⟩
 |.pix n off i=>⟨rfl,rfl⟩
 |.asl n off lo len=>⟨rfl,rfl⟩
 |.gp g off=>⟨rfl,rfl⟩
 |.gix g off i=>⟨rfl,rfl⟩
theorem eW:∀l:List PV,PV.aC PV.bM (PV.bh (PV.aO dC) l)=[]/\PV.aC PV.bU (PV.bh (PV.aO dC) l)=PV.aC PV.bU l
 |[]=>⟨rfl,rfl⟩
 |x::l=>by
  obtain ⟨a1,a2⟩:=nC x;obtain ⟨b1,b2⟩:=eW l;exact ⟨by show _ ++_=_;rw [a1,b1];rfl,by show _ ++_=_ ++_;rw [a2,b2]⟩
end
theorem fv:∀(ms ns:List Nat),(∀m∈ns,m∈aX ns ms)/\∀m∈ms,m∈aX ns ms
 |[],ns=>⟨fun m h=>h,fun m h=>by cases h⟩
 |x::ms,ns=>by
  obtain ⟨h1,h2⟩:=fv ms (bif ns.any (Nat.beq x)then ns else ns++[x])
  have hx:∀m,m∈ns\/m=x->m∈(bif ns.any (Nat.beq x)then ns else ns++[x]):=by
   intro m hm;cases ha:ns.any (Nat.beq x)with
   |true=>
    rcases hm with hm|rfl
    ·exact hm
    ·obtain ⟨y,hy,he⟩:=List.any_eq_true.1 ha
     rw [Nat.eq_of_beq_eq_true he];exact hy
   |false=>
    rcases hm with hm|rfl
    ·exact List.mem_append_left _ hm
    ·exact List.mem_append_right _ (List.mem_singleton.2 rfl)
  refine ⟨fun m hm=>h1 m (hx m (.inl hm)),fun m hm=>?_⟩;rcases List.mem_cons.1 hm with rfl|hm
  ·exact h1 m (hx m (.inr rfl))
  ·exact h2 m hm
theorem iO(us:List Nat):rS (b8 us):=by
 refine ⟨by unfold b8;cases jY 0 us<;>rfl,fun t _=>.inr ?_⟩
 unfold b8;cases jY t us with
 |true=>exact .inl rfl
 |false=>exact .inr rfl
theorem j4 {us:List Nat}{y:PV}(h:y.bM=[]\/∀t∈y.bM,t∈us):y.aO (b8 us)=y.aO dC:=by
 have key:∀t,(t=0\/t∈us)->b8 us t=dC t:=by
  intro t ht;unfold b8 dC;rcases ht with rfl|ht
  ·cases jY 0 us<;>rfl
  ·have:jY t us=true:=List.any_eq_true.2 ⟨t,ht,Nat.beq_refl t⟩
   rw [this];rfl
 have tk:∀t,(∀u∈(match t with |0=>([]:List Nat)|t+1=>[t+1]),u∈us)\/(match t with |0=>([]:List Nat)|t+1=>[t+1])=[]->t=0\/t∈us:=by
  intro t ht;cases t with
  |zero=>exact .inl rfl
  |succ t=>
   rcases ht with ht|ht
   ·exact .inr (ht _ (List.mem_singleton.2 rfl))
   ·cases ht
 cases y with
 |row nl r t=>
  show(match b8 us t with |some u=>PV.row nl r u|none=>.undef)=_
  rw [key t (tk t (by cases t<;>first|exact .inr rfl|exact h.symm))];rfl
 |vec nl sz l t=>
  show(match b8 us t with |some u=>PV.vec nl sz l u|none=>.undef)=_
  rw [key t (tk t (by cases t<;>first|exact .inr rfl|exact h.symm))];rfl
 |ep r t i=>
  show(match b8 us t with |some u=>PV.ep r u i|none=>.undef)=_
  rw [key t (tk t (by cases t<;>first|exact .inr rfl|exact h.symm))];rfl
 |epv sz l t i off=>
  show(match b8 us t with |some u=>PV.epv sz l u i off|none=>.undef)=_
  rw [key t (tk t (by cases t<;>first|exact .inr rfl|exact h.symm))];rfl
 |_=>rfl
theorem nD(fn ft:Nat->Option Nat)(y:PV)(hl:y.leaf=true):(y.fj fn ft).wid=y.wid:=by
 cases y with
 |row nl r t=>show PV.wid (match ft t with |some u=>.row nl r u|none=>.undef)=_;cases ft t<;>rfl
 |vec nl sz l t=>show PV.wid (match ft t with |some u=>.vec nl sz l u|none=>.undef)=_;cases ft t<;>rfl
 |ep r t i=>show PV.wid (match ft t with |some u=>.ep r u i|none=>.undef)=_;cases ft t<;>rfl
 |epv sz l t i off=>show PV.wid (match ft t with |some u=>.epv sz l u i off|none=>.undef)=_;cases ft t<;>rfl
 |ptr n off=>show PV.wid (match fn n with |some m=>.ptr m off|none=>.undef)=_;cases fn n<;>rfl
 |pix n off i=>show PV.wid (match fn n with |some m=>.pix m off i|none=>.undef)=_;cases fn n<;>rfl
 |asl n off i k=>show PV.wid (match fn n with |some m=>.asl m off i k|none=>.undef)=_;cases fn n<;>rfl
 |_=>first|rfl|cases hl
theorem aN.oU {G G':Gh}{w w':World}{fn ft:Nat->Option Nat}(hF:gm G.F G'.F)(hn:∀n m,fn n=some m->∀b,G.σ n=some b->G'.σ m=some b)(f0:∀u,ft 0=some u->u=0)
 (hm:∀t u,t≠0->ft t=some u->u≠0/\∀b,G.τ t=some b->G'.τ u=some b/\w'.heap[b]?=w.heap[b]?)
 {y:PV}{v:Value}(hl:y.leaf=true)(h:aN y G w v):aN (y.fj fn ft) G' w' v:=by
 have at_:∀{t t' sz b o cap:Nat} {cs:List Value},ft t=some t'->At G w t sz b o cap cs->At G' w' t' sz b o cap cs:=by
  intro t t' sz b o cap cs ht h;rcases h with⟨rfl,h2⟩|⟨h1,h2,h3,xs,e,fz,h4,h5⟩
  ·obtain rfl:=f0 t' ht
   exact .inl ⟨rfl,fun i c hc=>hF _ _ _ (h2 i c hc)⟩
  ·obtain ⟨e0,e1⟩:=hm t t' h1 ht
   obtain ⟨e2,e3⟩:=e1 b h2;exact .inr ⟨e0,e2,fun i c hc=>by rw [World.cell?_of_block (w:=w) (a:=⟨b,o+i,none⟩) e3];exact h3 i c hc,xs,e,fz,by rw [e3];exact h4,h5⟩
 have sl_:∀{nl:Bool} {t t' sz:Nat} {us:List Value} {v:Value},ft t=some t'->Sl G w nl t sz us v->Sl G' w' nl t' sz us v:=by
  intro nl t t' sz us v ht h;rcases h with h|⟨h1,b,o,cap,h2,h3,h4⟩
  ·exact .inl h
  ·exact .inr ⟨h1,b,o,cap,h2,h3,at_ ht h4⟩
 cases y with
 |undef=>trivial
 |int k z=>exact h
 |bool b=>exact h
 |str l=>exact h
 |raw u=>exact h
 |arr n r=>exact h
 |agg l=>cases hl
 |tup l=>cases hl
 |fn g a b=>cases hl
 |row nl r t=>
  show aN (match ft t with |some u=>.row nl r u|none=>.undef) G' w' v
  cases ht:ft t with
  |none=>trivial
  |some t'=>exact sl_ ht h
 |vec nl sz l t=>
  show aN (match ft t with |some u=>.vec nl sz l u|none=>.undef) G' w' v
  cases ht:ft t with
  |none=>trivial
  |some t'=>
   obtain ⟨us,h1,h2,h3⟩:=h;exact ⟨us,aw.deep (G:=G) (G':=G') hF h1,h2,sl_ ht h3⟩
 |ep r t i=>
  show aN (match ft t with |some u=>.ep r u i|none=>.undef) G' w' v
  cases ht:ft t with
  |none=>trivial
  |some t'=>
   obtain ⟨b,o,cap,h1,h2,h3,h4⟩:=h;exact ⟨b,o,cap,h1,h2,h3,at_ ht h4⟩
 |epv sz l t i off=>
  show aN (match ft t with |some u=>.epv sz l u i off|none=>.undef) G' w' v
  cases ht:ft t with
  |none=>trivial
  |some t'=>
   obtain ⟨b,o,cap,us,h1,h2,h3,h4,h5,h6⟩:=h;exact ⟨b,o,cap,us,h1,h2,h3,aw.deep (G:=G) (G':=G') hF h4,h5,at_ ht h6⟩
 |ptr n off=>
  show aN (match fn n with |some m=>.ptr m off|none=>.undef) G' w' v
  cases hk:fn n with
  |none=>trivial
  |some m=>obtain ⟨b,h1,h2⟩:=h;exact ⟨b,hn n m hk b h1,h2⟩
 |pix n off i=>
  show aN (match fn n with |some m=>.pix m off i|none=>.undef) G' w' v
  cases hk:fn n with
  |none=>trivial
  |some m=>obtain ⟨h0,b,h1,h2⟩:=h;exact ⟨h0,b,hn n m hk b h1,h2⟩
 |asl n off lo len=>
  show aN (match fn n with |some m=>.asl m off lo len|none=>.undef) G' w' v
  cases hk:fn n with
  |none=>trivial
  |some m=>obtain ⟨h0,h00,b,o,c,h1,h2⟩:=h;exact ⟨h0,h00,b,o,c,hn n m hk b h1,h2⟩
 |gp g off=>exact h
 |gix g off i=>exact h
theorem se:∀{n:Nat} {l:List Nat},jY n l=true->l[ze n l]?=some n/\ze n l<l.length
 |n,[],h=>by cases h
 |n,m::l,h=>by
  unfold ze;cases hb:Nat.beq m n with
  |true=>
   have:=Nat.eq_of_beq_eq_true hb;subst this;exact ⟨rfl,by simp⟩
  |false=>
   have h':jY n l=true:=by
    unfold jY at h⊢;rw [List.any_cons]at h;have:Nat.beq n m=false:=by rw [Bool.eq_false_iff];exact fun e=>by rw [Nat.eq_of_beq_eq_true e,Nat.beq_refl]at hb;cases hb
    rw [this,Bool.false_or]at h;exact h
   obtain ⟨h1,h2⟩:=se h';exact ⟨by simpa using h1,by simpa using h2⟩
theorem sf {n:Nat}{l:List Nat}:jY n l=true↔n∈l:=by
 unfold jY;rw [List.any_eq_true];constructor
 ·rintro ⟨x,h1,h2⟩;rw [Nat.eq_of_beq_eq_true h2];exact h1
 ·exact fun h=>⟨n,h,Nat.beq_refl n⟩
theorem sg:∀{l:List Nat},nodupB l=true->∀(i j n:Nat),l[i]?=some n->l[j]?=some n->i=j
 |[],_,i,j,n,h,_=>by simp at h
 |m::l,hd,i,j,n,h,h'=>by
  unfold nodupB at hd;rw [Bool.and_eq_true]at hd;have hno:n=m->n∉l:=fun e hm=>by
   have:=sf.2 (e▸hm);rw [this]at hd;cases hd.1
  cases i with
  |zero=>
   cases j with
   |zero=>rfl
   |succ j=>
    simp at h h';exact absurd (List.mem_of_getElem? h') (hno h.symm)
  |succ i=>
   cases j with
   |zero=>
    simp at h h';exact absurd (List.mem_of_getElem? h) (hno h'.symm)
   |succ j=>
    have:=sg hd.2 i j n (by simpa using h) (by simpa using h');omega
theorem je:∀{ns:List Nat} {cs:List PV},nk lh ns=some cs->cs.length=ns.length/\∀(i n:Nat),ns[i]?=some n->∃c,cs[i]?=some c/\b6 n lh=some c
 |[],cs,h=>by
  injection h with h;subst h
  exact ⟨rfl,fun i n h=>by simp at h⟩
 |n::ns,cs,h=>by
  unfold nk at h;split at h
  ·rename_i c cs' h1 h2
   injection h with h;subst h
   obtain ⟨h3,h4⟩:=je h2;refine ⟨by simp [h3],fun i m hm=>?_⟩;cases i with
   |zero=>simp at hm;subst hm;exact ⟨c,rfl,h1⟩
   |succ i=>exact h4 i m (by simpa using hm)
  ·cases h
theorem qh:∀{ns:List Nat} {cs:List PV} {l:List (Nat×PV)},cs.length=ns.length->nodupB ns=true->(∀n∈ns,∃x,b6 n l=some x)->
 (∀(i n:Nat) (c:PV),ns[i]?=some n->cs[i]?=some c->b6 n (kG ns cs l)=some c)/\∀k,k∉ns->b6 k (kG ns cs l)=b6 k l
 |[],cs,l,_,_,_=>⟨fun i n c h=>by simp at h,fun k _=>by unfold kG;rfl⟩
 |n::ns,[],l,h,_,_=>by simp at h
 |n::ns,c::cs,l,h,hd,hx=>by
  have hd':=hd;unfold nodupB at hd';rw [Bool.and_eq_true]at hd';have hn:n∉ns:=fun hm=>by rw [sf.2 hm]at hd';cases hd'.1
  obtain ⟨i1,i2⟩:=qh (ns:=ns) (cs:=cs) (l:=l) (by simpa using h) hd'.2 fun m hm=>hx m (List.mem_cons_of_mem _ hm);refine ⟨fun i m d hm hdd=>?_,fun k hk=>?_⟩
  ·show b6 m (iI n c (kG ns cs l))=_
   rw [kK];cases i with
   |zero=>
    simp at hm hdd;subst hm;subst hdd;obtain ⟨x,hx'⟩:=hx n (List.mem_cons_self ..);rw [if_pos rfl,i2 n hn,hx'];rfl
   |succ i=>
    have hm':ns[i]?=some m:=by simpa using hm
    rw [if_neg (fun e=>hn (by rw [<-e];exact List.mem_of_getElem? hm'))];exact i1 i m d hm' (by simpa using hdd)
  ·show b6 k (iI n c (kG ns cs l))=_
   rw [kK,if_neg (fun e=>hk (by rw [e];exact List.mem_cons_self ..))];exact i2 k fun hm=>hk (List.mem_cons_of_mem _ hm)
theorem gv(f:PV->PV):∀{l:List PV} {i:Nat},(PV.bh f l)[i]?=(l[i]?).map (PV.cC f)
 |[],i=>by simp [PV.bh]
 |x::l,0=>by simp [PV.bh]
 |x::l,i+1=>by simp [PV.bh,gv f]
theorem gw(f:PV->PV):∀(l:List PV),(PV.bh f l).length=l.length
 |[]=>rfl
 |x::l=>by simp [PV.bh,gw f]
theorem fK.both {G G':Gh}{w w':World}{fn ft:Nat->Option Nat}{b:Nat}{x:PV}(hb:w'.heap[b]?=w.heap[b]?)(hF:gm G.F G'.F)(hn:∀n m,fn n=some m->∀b,G.σ n=some b->G'.σ m=some b)(f0:∀u,ft 0=some u->u=0)
 (hm:∀t u,t≠0->ft t=some u->u≠0/\∀b,G.τ t=some b->G'.τ u=some b/\w'.heap[b]?=w.heap[b]?)(h:fK G w b x):fK G' w' b (x.cC (PV.fj fn ft)):=by
 obtain ⟨u,e,fz,h1,h2,h3,h4,h5⟩:=h;exact ⟨u,e,fz,by rw [hb];exact h1,h2,aN.map (fun y v hl hy=>aN.oU hF hn f0 hm hl hy) (nD fn ft) h3,by rw [PV.gE (nD fn ft)];exact h4,h5⟩
theorem fK.mark {G G':Gh}{w w':World}{f:Nat->Option Nat}{b:Nat}{x:PV}(hb:w'.heap[b]?=w.heap[b]?)(hF:gm G.F G'.F)(hσ:∀n,G'.σ n=G.σ n)(f0:f 0=some 0)(hm:xg G G' w w' f)(h:fK G w b x):fK G' w' b (x.cC (PV.aO f)):=by
 obtain ⟨u,e,fz,h1,h2,h3,h4,h5⟩:=h;exact ⟨u,e,fz,by rw [hb];exact h1,h2,aN.map (fun y v hl hy=>aN.fJ hF hσ f0 hm hl hy) (kJ f) h3,by rw [PV.gE (kJ f)];exact h4,h5⟩
theorem sh {ms:List Nat}{n0:Nat}:gN ms n0 0=some 0/\∀t u,gN ms n0 t=some u->u=t/\(t≠0->t∉ms/\¬(64*n0<=t/\t<64*n0+64)):=by
 refine ⟨rfl,fun t u h=>?_⟩;unfold gN at h;cases h0:Nat.beq t 0 with
 |true=>
  rw [h0]at h;injection h with h
  have:=Nat.eq_of_beq_eq_true h0;exact ⟨by omega,fun hn=>absurd this hn⟩
 |false=>
  rw [h0]at h;replace h:(bif jY t ms||(Nat.ble (64*n0) t&&Nat.blt t (64*n0+64))then(none:Option Nat)else some t)=some u:=h
  cases hc:(jY t ms||(Nat.ble (64*n0) t&&Nat.blt t (64*n0+64)))with
  |true=>rw [hc]at h;cases h
  |false=>
   rw [hc]at h;injection h with h
   rw [Bool.or_eq_false_iff]at hc;refine ⟨h.symm,fun _=>⟨(fun hm=>by rw [sf.2 hm]at hc;cases hc.1),fun⟨q1,q2⟩=>?_⟩⟩;have e1:Nat.ble (64*n0) t=true:=Nat.ble_eq_true_of_le q1;have e2:Nat.blt t (64*n0+64)=true:=Nat.ble_eq_true_of_le q2;rw [e1,e2]at hc;cases hc.2
theorem EX {n0 t u:Nat}(h:Cv n0 t=some u):(t=0/\u=0)\/(t≠0/\t<64/\u=64*n0+t):=by
 unfold Cv at h;cases h0:Nat.beq t 0 with
 |true=>
  rw [h0]at h;injection h with h
  exact .inl ⟨Nat.eq_of_beq_eq_true h0,h.symm⟩
 |false=>
  rw [h0]at h;replace h:(bif Nat.blt t 64 then some (64*n0+t)else none)=some u:=h
  cases hc:Nat.blt t 64 with
  |true=>
   rw [hc]at h;injection h with h
   exact .inr ⟨(fun e=>by rw [e]at h0;cases h0),Nat.le_of_ble_eq_true hc,h.symm⟩
  |false=>rw [hc]at h;cases h
theorem oV {ms:List Nat}{t u:Nat}(h:Cn ms t=some u):(t=0/\u=0)\/(t≠0/\∃i,u=i+1/\ms[i]?=some t):=by
 unfold Cn at h;cases h0:Nat.beq t 0 with
 |true=>
  rw [h0]at h;injection h with h
  exact .inl ⟨Nat.eq_of_beq_eq_true h0,h.symm⟩
 |false=>
  rw [h0]at h;replace h:(bif jY t ms then some (Nat.succ (ze t ms))else none)=some u:=h
  cases hc:jY t ms with
  |true=>
   rw [hc]at h;injection h with h
   exact .inr ⟨(fun e=>by rw [e]at h0;cases h0),ze t ms,h.symm,(se hc).1⟩
  |false=>rw [hc]at h;cases h
theorem OW {ns:List Nat}{n m:Nat}(h:Gm ns n=some m):ns[m]?=some n:=by
 unfold Gm at h;cases hc:jY n ns with
 |true=>rw [hc]at h;injection h with h;rw [<-h];exact (se hc).1
 |false=>rw [hc]at h;cases h
theorem ik:∀(ms ns:List Nat),ns.Nodup->(aX ns ms).Nodup
 |[],ns,h=>h
 |x::ms,ns,h=>by
  refine ik ms _ ?_;cases ha:ns.any (Nat.beq x)with
  |true=>exact h
  |false=>
   show(ns++[x]).Nodup;refine List.nodup_append.2 ⟨h,by simp,fun a ha' b hb e=>?_⟩;rw [List.mem_singleton]at hb;subst hb;subst e;rw [List.any_eq_true.2 ⟨a,ha',Nat.beq_refl a⟩]at ha;cases ha
theorem Mr [Wd]{T:cO}{X:cM}(hX:df P T X)(hi:Inv cx G lh w)(hT:jb T cx){f:FuncId}{us ns:List Nat}{xs:List PV}{v:PV}{g:Option (PV->PV)}{lh':List (Nat×PV)}{vs:List Value}(h:(u7 X f us ns xs lh).Is v g lh lh')(hx:aw xs G w vs):
 ∀R:Value->World->Prop,(∀ms n0 G' w' u,g=some (fun y=>(y.aO (b8 us)).aO (gN ms n0))->dI cx G w (some (PV.aO (gN ms n0))) lh' G' w'->aN v G' w' u->R u w')->
  ((callFunc f vs.toArray).run P w=.ok (.enter f vs.toArray) w/\Calls P f vs.toArray w fun e w'=>∃u,e=.returned u/\R u w')\/(∃u w',(callFunc f vs.toArray).run P w=.ok (.value u) w'/\R u w'):=by
 intro R hR;unfold u7 at h;split at h
 ·rename_i cs n0 nr hcs
  obtain ⟨ns,hns⟩:∃ns,ns=n0::nr:=⟨_,rfl⟩;rw [<-hns]at h hcs;obtain ⟨ms,hms⟩:∃ms,ms=aX [] (PV.aC PV.bM cs):=⟨_,rfl⟩;rw [<-hms]at h;have hmd:ms.Nodup:=by rw [hms];exact ik _ _ List.nodup_nil
  split at h
  ·exact h.elim
  ·rename_i c hc
   split at h
   ·rename_i r outs hr
    split at h
    ·rename_i q1 q2 hb ht hn hnm
     obtain ⟨hpre,rfl,rfl,rfl⟩:=h;rw [Bool.and_eq_true,Bool.and_eq_true]at hb;obtain ⟨⟨hlen,hnd⟩,hm60⟩:=hb;have hlen:=Nat.eq_of_beq_eq_true hlen;have hm60:ms.length<60:=Nat.le_of_ble_eq_true hm60;obtain ⟨hcl,hcg⟩:=je hcs;have hninj:=sg hnd;obtain ⟨bs,hbs⟩:∃bs,bs=ns.map fun n=>(G.σ n).getD 0:=⟨_,rfl⟩;have hbox:∀i n,ns[i]?=some n->∃b c,G.σ n=some b/\bs[i]?=some b/\cs[i]?=some c/\fK G w b c:=fun i n hn=>by
      obtain ⟨c,h1,h2⟩:=hcg i n hn;obtain ⟨b,h3,h4⟩:=hi.box n c h2;exact ⟨b,c,h3,by rw [hbs,List.getElem?_map,hn];simp [h3],h1,h4⟩
     have hbi:∀i b,bs[i]?=some b->∃n,ns[i]?=some n/\G.σ n=some b:=fun i b hb=>by
      have hb':=hb;rw [hbs,List.getElem?_map]at hb';cases hn:ns[i]?with
      |none=>rw [hn]at hb';cases hb'
      |some n=>
       obtain ⟨b',c',h1,h2,-⟩:=hbox i n hn;rw [hb]at h2;injection h2 with h2
       exact ⟨n,hn,by rw [h2];exact h1⟩
     have hbm:∀b∈bs,∃n,n∈ns/\G.σ n=some b:=fun b hb=>by
      obtain ⟨i,hi'⟩:=List.mem_iff_getElem?.1 hb;obtain ⟨n,h1,h2⟩:=hbi i b hi';exact ⟨n,List.mem_of_getElem? h1,h2⟩
     have hbn:∀n b,n∈ns->G.σ n=some b->b∈bs:=fun n b hn hb=>by
      obtain ⟨i,hi'⟩:=List.mem_iff_getElem?.1 hn;obtain ⟨b',c',h1,h2,-⟩:=hbox i n hi';rw [hb]at h1;injection h1 with h1;rw [h1];exact List.mem_of_getElem? h2
     obtain ⟨τ0,hτ0⟩:∃τ0:Nat->Option Nat,τ0=fun t=>match t with |0=>none|t+1=>(ms[t]?).bind G.τ:=⟨_,rfl⟩
     have hτ:∀t b,τ0 t=some b->∃i m,t=i+1/\ms[i]?=some m/\G.τ m=some b:=fun t b ht=>by
      rw [hτ0]at ht;cases t with
      |zero=>cases ht
      |succ t=>
       obtain ⟨m,h1,h2⟩:=Option.bind_eq_some_iff.1 (show(ms[t]?).bind G.τ=some b from ht);exact ⟨t,m,rfl,h1,h2⟩
     have hin:∀t u,t≠0->Cn ms t=some u->u≠0/\∀b,G.τ t=some b->τ0 u=some b/\w.heap[b]?=w.heap[b]?:=fun t u h0 ht=>by
      rcases oV ht with⟨e,-⟩|⟨-,i,rfl,h1⟩
      ·exact absurd e h0
      ·refine ⟨by omega,fun b hb=>⟨?_,rfl⟩⟩
       rw [hτ0];show(ms[i]?).bind G.τ=_;rw [h1];exact hb
     have hin0:∀u,Cn ms 0=some u->u=0:=fun u hu=>by
      rcases oV hu with⟨-,e⟩|⟨e,-⟩
      ·exact e
      ·exact absurd rfl e
     have hinN:∀n m,Gm ns n=some m->∀b,G.σ n=some b->bs[m]?=some b:=fun n m hm b hb=>by
      obtain ⟨b',c',h1,h2,-⟩:=hbox m n (OW hm);rw [hb]at h1;injection h1 with h1;rw [h1];exact h2
     have hlent:Mq G.F bs τ0 w (PV.bh (PV.fj (Gm ns) (Cn ms)) cs):=by
      refine ⟨by rw [gw,hbs,List.length_map,hcl],fun i j b h1 h2=>?_,fun b hb o=>?_,fun t b htb=>?_,fun t t' b h1 h2=>?_,fun i x hx=>?_⟩
      ·obtain ⟨n,g1,g2⟩:=hbi i b h1
       obtain ⟨n',g3,g4⟩:=hbi j b h2;have:=hi.injσ n n' b g2 g4;subst this;exact hninj i j n g1 g3
      ·obtain ⟨n,-,g2⟩:=hbm b hb
       exact (hi.boxF n b g2).2.1 o
      ·obtain ⟨i,m,rfl,g1,g2⟩:=hτ t b htb
       obtain ⟨k1,k2,k3,k4⟩:=hi.mark m b g2;have hil:i<ms.length:=(List.getElem?_eq_some_iff.1 g1).1;refine ⟨by omega,by omega,k2,k3,fun hb=>?_⟩;obtain ⟨n,-,g3⟩:=hbm b hb;exact hi.disj n m b g3 g2
      ·obtain ⟨i,m,rfl,g1,g2⟩:=hτ t b h1
       obtain ⟨j,m',rfl,g3,g4⟩:=hτ t' b h2;have:=hi.injτ m m' b g2 g4;subst this;have h5:=(List.getElem?_eq_some_iff.1 g1);have h6:=(List.getElem?_eq_some_iff.1 g3);obtain ⟨a1,a2⟩:=h5;obtain ⟨a3,a4⟩:=h6;have:=(List.getElem?_inj a1 hmd).1 (g1.trans g3.symm);omega
      ·rw [gv]at hx
       cases hc':cs[i]?with
       |none=>rw [hc']at hx;cases hx
       |some c0=>
        rw [hc']at hx;injection hx with hx;subst hx
        have hil:i<ns.length:=by rw [<-hcl];exact (List.getElem?_eq_some_iff.1 hc').1
        obtain ⟨b,c1,g1,g2,g3,g4⟩:=hbox i _ (List.getElem?_eq_getElem hil);rw [hc']at g3;injection g3 with g3;subst g3
        exact ⟨b,g2,fK.both (G:=G) (G':=⟨fun i=>bs[i]?,τ0,G.F⟩) rfl (gm.refl _) hinN hin0 hin g4⟩
     have hargs:aw (PV.bh (PV.fj (Gm ns) (Cn ms)) xs) ⟨fun i=>bs[i]?,τ0,G.F⟩ w vs:=
      aw.map (fun y v hl hy=>aN.oU (G:=G) (G':=⟨fun i=>bs[i]?,τ0,G.F⟩) (gm.refl _) hinN hin0 hin hl hy) (nD _ _) hx
     have hlk:=(hX f _ c hc).P5 (by rw [hnm];simp) hr;have hlo:outs.length=(PV.bh (PV.fj (Gm ns) (Cn ms)) cs).length:=by rw [gw,hcl,hlen]
     rw [show(PV.bh (PV.fj (Gm ns) (Cn ms)) xs++PV.bh (PV.fj (Gm ns) (Cn ms)) cs).length-outs.length=(PV.bh (PV.fj (Gm ns) (Cn ms)) xs).length by rw [List.length_append,hlo];omega,List.take_left,List.drop_left]at hlk;have hn0:n0∈ns:=by rw [hns];exact List.mem_cons_self ..
     have came:∀u w',kO G.F bs τ0 w r outs u w'->R u w':=by
      intro u w' ⟨F',τ',c1,c2,c3,c4,c5,c6,c7,c8,c9,c10,c11⟩;have hsame:∀b,b<w.heap.size->b∉bs->(∀m∈ms,G.τ m≠some b)->w'.heap[b]?=w.heap[b]?:=fun b h1 h2 h3=>c5 b h1 h2 fun t ht=>by
       obtain ⟨i,m,-,g1,g2⟩:=hτ t b ht;exact h3 m (List.mem_of_getElem? g1) g2
      let G':Gh:=⟨G.σ,fun t=>if 64*n0<t/\t<64*n0+64 then τ' (t-64*n0)else match gN ms n0 t with |some (k+1)=>G.τ (k+1)|_=>none,F'⟩
      have τcase:∀t b,G'.τ t=some b->(∃k,k≠0/\k<64/\t=64*n0+k/\τ' k=some b)\/(t≠0/\t∉ms/\¬(64*n0<=t/\t<64*n0+64)/\G.τ t=some b):=fun t b ht=>by
       replace ht:(if 64*n0<t/\t<64*n0+64 then τ' (t-64*n0)else match gN ms n0 t with |some (k+1)=>G.τ (k+1)|_=>none)=some b:=ht
       split at ht
       ·rename_i hc'
        exact .inl ⟨t-64*n0,by omega,by omega,by omega,ht⟩
       ·split at ht
        ·rename_i k hk
         obtain ⟨e1,e2⟩:=sh.2 t (k+1) hk;obtain ⟨e3,e4⟩:=e2 (by omega);exact .inr ⟨by omega,e3,e4,by rw [<-e1];exact ht⟩
        ·cases ht
      have τnew:∀k b,k≠0->k<64->τ' k=some b->G'.τ (64*n0+k)=some b:=fun k b h0 h1 h2=>by
       show(if 64*n0<64*n0+k/\64*n0+k<64*n0+64 then τ' (64*n0+k-64*n0)else _)=some b
       rw [if_pos ⟨by omega,by omega⟩,show 64*n0+k-64*n0=k by omega];exact h2
      have τold:∀t,t≠0->t∉ms->¬(64*n0<=t/\t<64*n0+64)->gN ms n0 t=some t->G'.τ t=G.τ t:=fun t h0 h1 h2 h3=>by
       show(if 64*n0<t/\t<64*n0+64 then τ' (t-64*n0)else match gN ms n0 t with |some (k+1)=>G.τ (k+1)|_=>none)=_
       rw [if_neg (by omega),h3];cases t with
       |zero=>exact absurd rfl h0
       |succ t=>rfl
      have keepM:∀t b,t∉ms->G.τ t=some b->w'.heap[b]?=w.heap[b]?:=fun t b h1 h2=>
       hsame b (hi.mark t b h2).2.1 (fun hb=>by obtain ⟨n,-,g⟩:=hbm b hb;exact hi.disj n t b g h2) fun m hm hg=>h1 (by rw [hi.injτ t m b h2 hg];exact hm)
      have hmo:xg G G' w w' (gN ms n0):=fun t h0=>by
       cases hk:gN ms n0 t with
       |none=>trivial
       |some u=>
        obtain ⟨e1,e2⟩:=sh.2 t u hk;obtain ⟨e3,e4⟩:=e2 h0;subst e1;cases u with
        |zero=>exact absurd rfl h0
        |succ u=>exact ⟨rfl,τold _ h0 e3 e4 hk,fun b hb=>keepM _ b e3 hb⟩
      have f0:gN ms n0 0=some 0:=sh.1;have oldF:∀b o u,F' b o=some u->b<w.heap.size->(∀t,τ0 t≠some b)->G.F b o=some u:=fun b o u h1 h2 h3=>by
       rcases c8 b o u h1 with g|g|⟨t,g⟩
       ·exact g
       ·omega
       ·exact absurd g (h3 t)
      have outOk:∀t u,t≠0->Cv n0 t=some u->u≠0/\∀b,τ' t=some b->G'.τ u=some b/\w'.heap[b]?=w'.heap[b]?:=fun t u h0 hu=>by
       rcases EX hu with⟨e,-⟩|⟨-,e1,rfl⟩
       ·exact absurd e h0
       ·exact ⟨by omega,fun b hb=>⟨τnew t b h0 e1 hb,rfl⟩⟩
      have out0:∀u,Cv n0 0=some u->u=0:=fun u hu=>by
       rcases EX hu with⟨-,e⟩|⟨e,-⟩
       ·exact e
       ·exact absurd rfl e
      have hex:∀n∈ns,∃x,b6 n (cT (PV.aO (gN ms n0)) lh)=some x:=fun n hn=>by
       obtain ⟨i,hi'⟩:=List.mem_iff_getElem?.1 hn;obtain ⟨c',-,g⟩:=hcg i n hi';exact ⟨_,by rw [dT,g];rfl⟩
      obtain ⟨sa1,sa2⟩:=qh (ns:=ns) (cs:=PV.bh (PV.fj (OH ns) (Cv n0)) outs) (l:=cT (PV.aO (gN ms n0)) lh) (by rw [gw,hlen]) hnd hex;have hown:∀b,b∈bs\/(∃t,τ0 t=some b)->Own cx b:=fun b hb=>by
       rcases hb with hb|⟨t,ht⟩
       ·obtain ⟨n,-,g⟩:=hbm b hb;exact (hi.boxF n b g).2.2
       ·obtain ⟨i,m,-,-,g⟩:=hτ t b ht;exact (hi.mark m b g).2.2.2
      have ownNew:∀b,w.heap.size<=b\/(∃t',τ0 t'=some b)->Own cx b:=fun b hb=>by
       rcases hb with hb|hb
       ·exact .inr (Nat.le_trans hi.kept.size hb)
       ·exact hown b (.inr hb)
      have inv':Inv cx G' (kG ns (PV.bh (PV.fj (OH ns) (Cv n0)) outs) (cT (PV.aO (gN ms n0)) lh)) w':=by
       refine ⟨c7,hi.base.trans c6,fun b o u hu=>?_,fun n x hx=>?_,fun n b hb=>?_,fun t b htb=>?_,hi.injσ,fun t t' b h1 h2=>?_,fun n t b h1 h2=>?_,hi.par,hi.kept.step c1 c2 c3 c4 fun k hk hno=>c5 k hk (fun hb=>hno (hown k (.inl hb))) fun t ht=>hno (hown k (.inr ⟨t,ht⟩))⟩
       ·rcases c8 b o u hu with g|g|g
        ·exact hi.ext b o u g
        ·exact .inr (ownNew b (.inl g))
        ·exact .inr (ownNew b (.inr g))
       ·by_cases hn:n∈ns
        ·obtain ⟨i,hi'⟩:=List.mem_iff_getElem?.1 hn
         obtain ⟨b,c',g1,g2,-⟩:=hbox i n hi';have hil:i<outs.length:=by rw [hlen];exact (List.getElem?_eq_some_iff.1 hi').1
         have ho:outs[i]?=some outs[i]:=List.getElem?_eq_getElem hil;have:=sa1 i n _ hi' (by rw [gv,ho];rfl);rw [this]at hx;injection hx with hx;subst hx
         obtain ⟨b',g3,g4⟩:=c10.box i _ ho;rw [g2]at g3;injection g3 with g3;subst g3
         refine ⟨b,g1,fK.both (G:=⟨fun i=>bs[i]?,τ',F'⟩) (G':=G') rfl (gm.refl _) (fun k m hk b2 hb2=>?_) out0 outOk g4⟩;obtain ⟨n2,g5,g6⟩:=hbi k b2 hb2;have hk':ns[k]?=some m:=hk;rw [hk']at g5;injection g5 with g5;rw [g5];exact g6
        ·rw [sa2 n hn,dT]at hx
         cases hg:b6 n lh with
         |none=>rw [hg]at hx;cases hx
         |some c'=>
          rw [hg]at hx;injection hx with hx;subst hx
          obtain ⟨b,g1,g2⟩:=hi.box n c' hg;refine ⟨b,g1,g2.mark (G':=G') (hsame b (hi.σlt g1) (fun hb=>?_) fun m _ hm=>hi.disj n m b g1 hm) c6 (fun _=>rfl) f0 hmo⟩;obtain ⟨n',g3,g4⟩:=hbm b hb;exact hn (by rw [hi.injσ n n' b g1 g4];exact g3)
       ·replace hb:G.σ n=some b:=hb
        obtain ⟨⟨x,g1⟩,g2,g3⟩:=hi.boxF n b hb;by_cases hn:n∈ns
        ·obtain ⟨i,hi'⟩:=List.mem_iff_getElem?.1 hn
         have hil:i<outs.length:=by rw [hlen];exact (List.getElem?_eq_some_iff.1 hi').1
         exact ⟨⟨_,sa1 i n _ hi' (by rw [gv,List.getElem?_eq_getElem hil];rfl)⟩,c10.bF b (hbn n b hn hb),g3⟩
        ·refine ⟨⟨_,by rw [sa2 n hn,dT,g1];rfl⟩,fun o=>?_,g3⟩
         cases hu:F' b o with
         |none=>exact hu
         |some u=>
          have:=oldF b o u hu (hi.σlt hb) fun t ht=>by
           obtain ⟨i,m,-,-,g⟩:=hτ t b ht;exact hi.disj n m b hb g
          rw [g2]at this;cases this
       ·rcases τcase t b htb with⟨k,h0,h1,rfl,g⟩|⟨h0,h1,h2,g⟩
        ·obtain ⟨k1,k2,k3,k4,k5⟩:=c10.mks k b g
         exact ⟨by omega,k3,k4,ownNew b (c9 k b g)⟩
        ·obtain ⟨k1,k2,k3,k4⟩:=hi.mark t b g
         refine ⟨k1,Nat.lt_of_lt_of_le k2 c4,fun o=>?_,k4⟩;cases hu:F' b o with
         |none=>exact hu
         |some u=>
          have:=oldF b o u hu k2 fun t' ht'=>by
           obtain ⟨i,m,-,g1,g2⟩:=hτ t' b ht';exact h1 (by rw [hi.injτ t m b g g2];exact List.mem_of_getElem? g1)
          rw [k3]at this;cases this
       ·have mixed:∀k t b,τ' k=some b->t∉ms->G.τ t=some b->False:=fun k t b g1 g2 g3=>by
         rcases c9 k b g1 with g|⟨t',g⟩
         ·have:=(hi.mark t b g3).2.1;omega
         ·obtain ⟨i,m,-,g4,g5⟩:=hτ t' b g
          exact g2 (by rw [hi.injτ t m b g3 g5];exact List.mem_of_getElem? g4)
        rcases τcase t b h1 with⟨k,-,-,rfl,g⟩|⟨-,g1,-,g⟩<;>rcases τcase t' b h2 with⟨k',-,-,rfl,g'⟩|⟨-,g1',-,g'⟩
        ·rw [c10.inj k k' b g g']
        ·exact (mixed k t' b g g1' g').elim
        ·exact (mixed k' t b g' g1 g).elim
        ·exact hi.injτ t t' b g g'
       ·replace h1:G.σ n=some b:=h1
        rcases τcase t b h2 with⟨k,-,-,rfl,g⟩|⟨-,g1,-,g⟩
        ·by_cases hn:n∈ns
         ·exact (c10.mks k b g).2.2.2.2 (hbn n b hn h1)
         ·rcases c9 k b g with g'|⟨t',g'⟩
          ·have:=hi.σlt h1;omega
          ·obtain ⟨i,m,-,-,g5⟩:=hτ t' b g'
           exact hi.disj n m b h1 g5
        ·exact hi.disj n t b h1 g
      refine hR ms n0 G' w' u rfl ⟨inv',fun y q hy=>aN.map (fun y v hl hy=>aN.fJ (G:=G) (G':=G') c6 (fun _=>rfl) f0 hmo hl hy) (kJ _) hy,c6⟩ ?_;exact aN.r7 (G:=G') c11
     rcases hlk hpre G.F w vs bs τ0 hi.fits (hT.1.mono hi.base) (hT.at hi.kept) (fun b hb=>by obtain ⟨n,-,g⟩:=hbm b hb;exact hT.own (hi.boxF n b g).2.2) (fun t b ht=>by obtain ⟨i,m,-,-,g⟩:=hτ t b ht;exact hT.own (hi.mark m b g).2.2.2) hlent hargs with⟨r1,r2⟩|⟨u,w',r1,r2⟩
     ·exact .inl ⟨r1,r2.mono fun e w' ⟨u,he,hcm⟩=>⟨u,he,came u w' hcm⟩⟩
     ·exact .inr ⟨u,w',r1,came u w' r2⟩
    ·exact h.elim
   ·exact h.elim
 ·exact h.elim
theorem OX {X:cM}{f:FuncId}{us ns:List Nat}{xs:List PV}{v:PV}{g:Option (PV->PV)}{l lh lh':List (Nat×PV)}(h:(u7 X f us ns xs l).Is v g lh lh'):(u7 X f us ns xs l).Is v g l lh':=by
 revert h;unfold u7;split
 ·split
  ·exact fun h=>h
  ·split
   ·split
    ·exact fun h=>h
    ·exact fun h=>h
   ·exact fun h=>h
 ·exact fun h=>h
theorem Ms [Wd]{T:cO}{X:cM}(hX:df P T X)(hi:Inv cx G lh w)(hT:jb T cx){f:FuncId}{xs:List PV}{v:PV}{g:Option (PV->PV)}{lh':List (Nat×PV)}{vs:List Value}(h:(Jj X f xs lh).Is v g lh lh')(hx:aw xs G w vs):
 ∀R:Value->World->Prop,(∀G' w' u,dI cx G w g lh' G' w'->aN v G' w' u->R u w')->
  ((callFunc f vs.toArray).run P w=.ok (.enter f vs.toArray) w/\Calls P f vs.toArray w fun e w'=>∃u,e=.returned u/\R u w')\/(∃u w',(callFunc f vs.toArray).run P w=.ok (.value u) w'/\R u w'):=by
 intro R hR;unfold Jj at h;split at h
 ·rename_i hnam
  split at h
  ·exact h.elim
  ·rename_i c hc
   have fin0:∀(G1:Gh) (lh1:List (Nat×PV)),Inv cx G1 lh1 w->aw (PV.bh (PV.aO dC) xs) G1 w vs->c.pre->(∀u w',Came G1.F w c.r u w'->R u w')->
    ((callFunc f vs.toArray).run P w=.ok (.enter f vs.toArray) w/\Calls P f vs.toArray w fun e w'=>∃u,e=.returned u/\R u w')\/(∃u w',(callFunc f vs.toArray).run P w=.ok (.value u) w'/\R u w'):=by
    intro G1 lh1 h1 hx1 hpre came;obtain ⟨b1,b2⟩:=eW xs;have hx2:aw (PV.bh (PV.aO dC) xs) G1.deep w vs:=aw.fa b1 (by rw [b2];exact hnam) hx1;rcases (hX f _ c hc).plain (by rw [(eW xs).2];exact hnam) hpre G1.F w vs h1.fits (hT.1.mono h1.base) (hT.at h1.kept) hx2 with⟨r1,r2⟩|⟨u,w',r1,r2⟩
    ·exact .inl ⟨r1,r2.mono fun e w' ⟨u,he,hcm⟩=>⟨u,he,came u w' hcm⟩⟩
    ·exact .inr ⟨u,w',r1,came u w' r2⟩
   have fin:∀(G1:Gh) (lh1:List (Nat×PV)),Inv cx G1 lh1 w->aw (PV.bh (PV.aO dC) xs) G1 w vs->c.pre->PV.ee PV.bM c.r=[]->PV.ee PV.bU c.r=[]->(∀G' w' u,dI cx G1 w none lh1 G' w'->aN c.r G' w' u->R u w')->
    ((callFunc f vs.toArray).run P w=.ok (.enter f vs.toArray) w/\Calls P f vs.toArray w fun e w'=>∃u,e=.returned u/\R u w')\/(∃u w',(callFunc f vs.toArray).run P w=.ok (.value u) w'/\R u w'):=by
    intro G1 lh1 h1 hx1 hpre ht hn hR1;refine fin0 G1 lh1 h1 hx1 hpre ?_;intro u w' ⟨F',τ',c1,c2,c3,c4,_,c5⟩;refine hR1 ⟨G1.σ,G1.τ,F'⟩ w' u (h1.Oe c1 c2 c3 c4) ?_;exact aN.r7 (G:=⟨G1.σ,G1.τ,F'⟩) (aN.fa (G:=⟨fun _=>none,τ',F'⟩) ht hn c5)
   have agree:∀us,(∀t∈PV.aC PV.bM xs,t∈us)->PV.bh (PV.aO (b8 us)) xs=PV.bh (PV.aO dC) xs:=by
    intro us hus;refine ej (fun y=>y.bM=[]\/∀t∈y.bM,t∈us) (fun y _ hp=>j4 hp) (fun y _ ht=>?_);rcases ht with h1|h1
    ·exact .inl h1
    ·exact .inr fun t htm=>hus t (h1 t htm)
   split at h
   ·rename_i hus ht hn
    obtain ⟨hpre,rfl,rfl,rfl⟩:=h;have h0:∀t∈PV.aC PV.bM xs,t∈([]:List Nat):=fun t hm=>by
     have:=(fv (PV.aC PV.bM xs) []).2 t hm;rw [hus]at this;exact this
    have hx1:aw (PV.bh (PV.aO dC) xs) G w vs:=by
     rw [<-agree [] h0];have:PV.bh (PV.aO (b8 [])) xs=PV.bh id xs:=by
      refine ej (fun _=>True) (fun y hl _=>?_) (fun _ _ _=>trivial);cases y<;>rfl
     rw [this,PV.iL];exact hx
    exact fin G _ hi hx1 hpre ht hn hR
   ·rename_i us ht hn hne
    obtain ⟨hpre,rfl,rfl,rfl⟩:=h;obtain ⟨s1,s2⟩:=hi.turn (w':=w) (iO (aX [] (PV.aC PV.bM xs))) none rfl rfl rfl (Nat.le_refl _) (fun _ _ _=>rfl) (fun t b e=>by cases e);have hx1:aw (PV.bh (PV.aO dC) xs) (G.turn w (b8 (aX [] (PV.aC PV.bM xs))) none) w vs:=by
     rw [<-agree _ (fv (PV.aC PV.bM xs) []).2];have:∀{l:List PV} {us:List Value},aw l G w us->aw (PV.bh (PV.aO (b8 (aX [] (PV.aC PV.bM xs)))) l) (G.turn w (b8 (aX [] (PV.aC PV.bM xs))) none) w us:=by
      intro l
      induction l with
      |nil=>intro us h;exact h
      |cons x l ih=>
       intro us h;obtain ⟨u,us',rfl,h1,h2⟩:=h;exact ⟨u,us',rfl,s2 _ _ h1,ih h2⟩
     exact this hx
    exact fin _ _ s1 hx1 hpre ht hn fun G' w' u tr hr=>hR G' w' u ⟨tr.inv,fun y q hy=>tr.rep _ _ (s2 y q hy),(hi.ij _ _).trans tr.le⟩ hr
   ·rename_i us ht hn
    obtain ⟨hpre,rfl,rfl,rfl⟩:=h;obtain ⟨s1,s2⟩:=hi.turn (w':=w) (iO (aX [] (PV.aC PV.bM xs))) none rfl rfl rfl (Nat.le_refl _) (fun _ _ _=>rfl) (fun t b e=>by cases e);have hx1:aw (PV.bh (PV.aO dC) xs) (G.turn w (b8 (aX [] (PV.aC PV.bM xs))) none) w vs:=by
     rw [<-agree _ (fv (PV.aC PV.bM xs) []).2];have:∀{l:List PV} {us:List Value},aw l G w us->aw (PV.bh (PV.aO (b8 (aX [] (PV.aC PV.bM xs)))) l) (G.turn w (b8 (aX [] (PV.aC PV.bM xs))) none) w us:=by
      intro l
      induction l with
      |nil=>intro us h;exact h
      |cons x l ih=>
       intro us h;obtain ⟨u,us',rfl,h1,h2⟩:=h;exact ⟨u,us',rfl,s2 _ _ h1,ih h2⟩
     exact this hx
    obtain ⟨t1,t2⟩:=s1.turn (w':=w) (jJ jA) none rfl rfl rfl (Nat.le_refl _) (fun _ _ _=>rfl) (fun t b e=>by cases e);have hx2:aw (PV.bh (PV.aO dC) xs) ((G.turn w (b8 (aX [] (PV.aC PV.bM xs))) none).turn w (cH jA) none) w vs:=by
     have:∀{l:List PV} {us:List Value},PV.aC PV.bM l=[]->aw l (G.turn w (b8 (aX [] (PV.aC PV.bM xs))) none) w us->aw (PV.bh (PV.aO (cH jA)) l) ((G.turn w (b8 (aX [] (PV.aC PV.bM xs))) none).turn w (cH jA) none) w us:=by
      intro l
      induction l with
      |nil=>intro us _ h;exact h
      |cons x l ih=>
       intro us hl h;obtain ⟨u,us',rfl,h1,h2⟩:=h;exact ⟨u,us',rfl,t2 _ _ h1,ih (List.append_eq_nil_iff.1 hl).2 h2⟩
     have h3:=this (eW xs).1 hx1;have h4:PV.bh (PV.aO (cH jA)) (PV.bh (PV.aO dC) xs)=PV.bh id (PV.bh (PV.aO dC) xs):=by
      refine ej (fun y=>y.bM=[]) (fun y hl hp=>?_) (fun y _ ht=>?_)
      ·have s0:cH jA 0=some 0:=rfl
       cases y with
       |row nl r t=>cases t with
        |zero=>rfl
        |succ t=>cases hp
       |vec nl sz l t=>cases t with
        |zero=>rfl
        |succ t=>cases hp
       |ep r t i=>cases t with
        |zero=>rfl
        |succ t=>cases hp
       |epv sz l t i off=>cases t with
        |zero=>rfl
        |succ t=>cases hp
       |_=>rfl
      ·rcases ht with h5|h5
       ·exact h5
       ·rw [(eW xs).1]at h5
        cases hy:y.bM with
        |nil=>rfl
        |cons t ts=>exact absurd (h5 t (by rw [hy];exact List.mem_cons_self ..)) (by simp)
     rw [h4,PV.iL]at h3;exact h3
    have hle0:=(hi.ij (b8 (aX [] (PV.aC PV.bM xs))) none).trans (s1.ij (cH jA) none);have hg:∀y q,aN y G w q->aN (y.cC fun y=>(y.aO (b8 (aX [] (PV.aC PV.bM xs)))).aO (cH jA)) ((G.turn w (b8 (aX [] (PV.aC PV.bM xs))) none).turn w (cH jA) none) w q:=fun y q hy=>by
     have:=t2 _ _ (s2 y q hy);rw [jI (fJ _)]at this;exact this
    refine fin0 _ _ t1 hx2 hpre ?_;intro u w' ⟨F',τ',c1,c2,c3,c4,c6,c5⟩;have nt0:∀u,Gn 0=some u->u=0:=fun u hu=>by injection hu with hu;exact hu.symm
    have ntc:∀t u,t≠0->Gn t=some u->t=1/\u=jA:=fun t u h0 hu=>by
     unfold Gn at hu;have e0:Nat.beq t 0=false:=by cases e:Nat.beq t 0 with |false=>rfl|true=>exact absurd (Nat.eq_of_beq_eq_true e) h0
     rw [e0]at hu;replace hu:(bif Nat.beq t 1 then some jA else none)=some u:=hu
     cases e:Nat.beq t 1 with
     |true=>rw [e]at hu;injection hu with hu;exact ⟨Nat.eq_of_beq_eq_true e,hu.symm⟩
     |false=>rw [e]at hu;cases hu
    have key:∀Gx:Gh,Gx.F=F'->(∀b,τ' 1=some b->Gx.τ jA=some b)->aN (c.r.cC (PV.fj Qy Gn)) Gx w' u:=fun Gx e1 e2=>
     aN.map (fun y v hl hy=>aN.oU (G:=⟨fun _=>none,τ',F'⟩) (G':=Gx) (w:=w') (w':=w') (fn:=Qy) (ft:=Gn) (by rw [e1];exact gm.refl _) (fun n m h=>by cases h) nt0 (fun t u h0 hu=>by
      obtain ⟨rfl,rfl⟩:=ntc t u h0 hu;exact ⟨by decide,fun b hb=>⟨e2 b hb,rfl⟩⟩) hl hy) (nD _ _) c5
    cases hτ:τ' 1 with
    |none=>
     have tr:=t1.Oe c1 c2 c3 c4;exact hR _ w' u ⟨tr.inv,fun y q hy=>tr.rep _ _ (hg y q hy),hle0.trans tr.le⟩ (key _ rfl fun b hb=>by rw [hτ]at hb;cases hb)
    |some b0=>
     obtain ⟨d1,d2,d3⟩:=c6 1 b0 hτ;have hK0:∀G0:Gh,(G0.turn w (cH jA) none).τ jA=none:=fun G0=>by unfold Gh.turn;rfl
     have hK:((G.turn w (b8 (aX [] (PV.aC PV.bM xs))) none).turn w (cH jA) none).τ jA=none:=hK0 _;have hif:∀(K b:Nat) (f:Nat->Option Nat),(fun t=>if t=K then some b else f t) K=some b:=fun K b f=>by simp
     have tr:=t1.OV c1 c2 c3 c4 (K:=jA) (by decide) hK d1 d2 d3;exact hR _ w' u ⟨tr.inv,fun y q hy=>tr.rep _ _ (hg y q hy),hle0.trans tr.le⟩ (key _ rfl fun b hb=>by
      rw [hτ]at hb;injection hb with hb;subst hb
      simp)
   ·exact h.elim
 ·unfold N9 at h
  obtain ⟨s1,s2⟩:=hi.turn (w':=w) (iO (aX [] (PV.aC PV.bM xs))) none rfl rfl rfl (Nat.le_refl _) (fun _ _ _=>rfl) (fun t b e=>by cases e);have hx1:∀{l:List PV} {us:List Value},aw l G w us->aw (PV.bh (PV.aO (b8 (aX [] (PV.aC PV.bM xs)))) l) (G.turn w (b8 (aX [] (PV.aC PV.bM xs))) none) w us:=by
   intro l
   induction l with
   |nil=>intro us h;exact h
   |cons x l ih=>
    intro us h;obtain ⟨u,us',rfl,h1,h2⟩:=h;exact ⟨u,us',rfl,s2 _ _ h1,ih h2⟩
  refine Mr hX s1 hT (OX h) (hx1 hx) R fun ms n0 G' w' u hg tr hr=>hR G' w' u ⟨tr.inv,fun y q hy=>?_,(hi.ij _ _).trans tr.le⟩ hr;subst hg;have:=tr.rep _ _ (s2 y q hy);dsimp only at this⊢;rw [jI (fJ _)]at this;exact this
end
section
variable [Wd] {P:Program} {cx:Cx} {G:Gh} {lh:List (Nat×PV)} {w:World}
theorem aw.one {xs:List PV}{u:Value}(h:aw xs G w [u]):∃x,xs=[x]/\aN x G w u:=by
 cases xs with
 |nil=>cases (show [u]=[]from h)
 |cons x l=>
  obtain ⟨u',us',e,h1,h2⟩:=h;injection e with e1 e2;subst e1;subst e2
  cases l with
  |nil=>exact ⟨x,rfl,h1⟩
  |cons y l=>obtain ⟨_,_,e,_⟩:=h2;cases e
theorem aw.cons {xs:List PV}{u:Value}{us:List Value}(h:aw xs G w (u::us)):∃x l,xs=x::l/\aN x G w u/\aw l G w us:=by
 cases xs with
 |nil=>cases (show u::us=[]from h)
 |cons x l=>
  obtain ⟨u',us',e,h1,h2⟩:=h;injection e with e1 e2;subst e1;subst e2
  exact ⟨x,l,rfl,h1,h2⟩
theorem aw.two {xs:List PV}{u v:Value}(h:aw xs G w [u,v]):∃x y,xs=[x,y]/\aN x G w u/\aN y G w v:=by
 obtain ⟨x,l,rfl,h1,h2⟩:=h.cons;obtain ⟨y,rfl,h3⟩:=h2.one;exact ⟨x,y,rfl,h1,h3⟩
theorem aw.three {xs:List PV}{u v q:Value}(h:aw xs G w [u,v,q]):∃x y z,xs=[x,y,z]/\aN x G w u/\aN y G w v/\aN z G w q:=by
 obtain ⟨x,l,rfl,h1,h2⟩:=h.cons;obtain ⟨y,z,rfl,h3,h4⟩:=h2.two;exact ⟨x,y,z,rfl,h1,h3,h4⟩
def oW(P:Program)(cx:Cx)(G:Gh)(w:World)(o:Oper)(a:Act)(v:PV)(f:Option (PV->PV))(lh':List (Nat×PV)):Prop:=
 ∀(K:Act->World->Prop) (Q:Exit->Act->World->Prop),(∀G' w' u,dI cx G w f lh' G' w'->aN v G' w' u->K (a.put o.dst u) w')->o.wp P a w K Q
theorem oW.val {o:Oper}{a:Act}{v:PV}{f:Option (PV->PV)}{lh':List (Nat×PV)}{s:Sem Value}(he:execOp a.eval o=(do Pure.pure (Next.value (<-s))))(h:∃u G' w',s.run P w=.ok u w'/\dI cx G w f lh' G' w'/\aN v G' w' u):oW P cx G w o a v f lh':=by
 intro K Q hK;obtain ⟨u,G',w',h1,h2,h3⟩:=h;unfold Oper.wp;rw [he,Sem.run_bind,h1];exact hK G' w' u h2 h3
theorem oW.quiet {o:Oper}{a:Act}{v:PV}{s:Sem Value}(hi:Inv cx G lh w)(he:execOp a.eval o=(do Pure.pure (Next.value (<-s))))(h:fT P s v G w):oW P cx G w o a v none lh:=by
 obtain ⟨u,h1,h2⟩:=h;exact .val he ⟨u,G,w,h1 w,.refl hi,h2⟩
theorem oW.pure {o:Oper}{a:Act}{v:PV}{u:Value}(hi:Inv cx G lh w)(he:execOp a.eval o=Pure.pure (Next.value u))(h:aN v G w u):oW P cx G w o a v none lh:=by
 intro K Q hK;unfold Oper.wp;rw [he];exact hK G w u (.refl hi) h
theorem GD {e:TypeId}{d:Option Tmp}{v:PV}{f:Option (PV->PV)}{lh':List (Nat×PV)}(h:(oM P e d lh).Is v f lh lh'):oM P e d lh=.ok v f lh':=by
 unfold oM at h⊢;split at h
 ·split at h
  ·obtain ⟨rfl,rfl,rfl⟩:=h;rfl
  ·exact h.elim
 ·exact h.elim
theorem Mt {e:TypeId}{x:PV}{d:Option Tmp}{v:PV}{f:Option (PV->PV)}{lh':List (Nat×PV)}(h:(Gl P e x d lh).Is v f lh lh'):Gl P e x d lh=.ok v f lh':=by
 unfold Gl at h⊢;split at h
 ·split at h
  ·obtain ⟨rfl,rfl,rfl⟩:=h;rfl
  ·exact h.elim
 ·exact h.elim
theorem oX(ρ:Operand->Value)(ps:Array (Nat×Operand)):(ps.map fun(i,x)=>(i,ρ x))=((ps.toList.map (·.1)).zip ((ps.toList.map (·.2)).map ρ)).toArray:=by
 apply Array.ext';simp
 induction ps.toList with
 |nil=>rfl
 |cons p l ih=>simp [ih]
theorem vw:∀{ts:List TypeId} {xs:List PV} {us:List Value},aw xs G w us->aw (oO P ts xs) G w us
 |t::ts,x::xs,us,h=>by
  obtain ⟨u,us',rfl,h1,h2⟩:=h;exact ⟨u,us',rfl,eA h1,vw h2⟩
 |[],xs,us,h=>by unfold oO;exact h
 |_::_,[],us,h=>by unfold oO;exact h
theorem zz {x:Operand}{a:Act}{y:PV}(h:aN y G w (a.eval x)):rX G w (some y) ((some x).map a.eval):=h
theorem rv {g:Option (Nat×Bool)}{s:u6}{v:PV}{f:Option (PV->PV)}{lh lh':List (Nat×PV)}(h:(calm g s).Is v f lh lh'):s.Is v f lh lh':=by
 cases s with
 |bad n=>cases g with
  |none=>exact h.elim
  |some g=>exact h.1.elim
 |_=>exact h
set_option maxHeartbeats 4000000 in
theorem Ju {T:cO}{X:cM}(hX:df P T X)(hi:Inv cx G lh w)(hm:cx.m<=32)(hT:jb T cx){o:Oper}(hnp:∀c x y,o.op≠.pick c x y){a:Act}{xs:List PV}{v:PV}{f:Option (PV->PV)}{lh':List (Nat×PV)}
 (hx:aw xs G w (o.op.operands.toList.map a.eval))(h:(gO P X T o xs lh).Is v f lh lh'):oW P cx G w o a v f lh':=by
 obtain ⟨dst,op,type,pos,after,guard⟩:=o;cases op
 case move x=>
  obtain ⟨x0,rfl,h1⟩:=aw.one (u:=a.eval x) hx;obtain ⟨rfl,rfl,rfl⟩:=h;exact .pure hi rfl (eA h1)
 case assign x=>
  obtain ⟨x0,rfl,h1⟩:=aw.one (u:=a.eval x) hx;unfold gO at h;dsimp only at h;split at h
  ·rename_i e n hc hd hn
   obtain ⟨rfl,rfl,rfl⟩:=h;have hx0:a.eval x=.slice none 0 0:=by
    unfold nm at hc;split at hc
    ·rfl
    ·cases hc
   obtain ⟨s1,s2⟩:=hi.turn (w':=w) (jJ n) none rfl rfl rfl (Nat.le_refl _) (fun _ _ _=>rfl) (fun t b e=>by cases e);intro K Q hK;unfold Oper.wp;show K (a.put dst (a.eval x)) w;exact hK _ w _ ⟨s1,s2,hi.ij _ _⟩ (by rw [hx0];exact zn n)
  ·obtain ⟨rfl,rfl,rfl⟩:=h
   exact .pure hi rfl h1
 case pick c x y=>exact absurd rfl (hnp c x y)
 case alloc e=>
  obtain ⟨u,G',w',r1,r2,r3⟩:=Jq hi hm (GD h);exact .val rfl ⟨u,G',w',r1,r2,r3⟩
 case box e x=>
  obtain ⟨x0,rfl,h1⟩:=aw.one (u:=a.eval x) hx;obtain ⟨u,G',w',r1,r2,r3⟩:=OT hi hm (Mt h) h1;exact .val rfl ⟨u,G',w',r1,r2,r3⟩
 case build t ps=>
  obtain ⟨h1,rfl,rfl⟩:=eN.dx h;have hx':aw xs G w ((ps.toList.map (·.2)).map a.eval):=by simpa [Op.operands]using hx
  refine .quiet hi (s:=Instr.build t (ps.map fun(i,x)=>(i,a.eval x))) rfl ?_;rw [oX];exact zq h1 hx'
 case buildSlice t n ps=>
  have hx':aw xs G w ((ps.toList.map (·.2)).map a.eval):=by simpa [Op.operands]using hx
  unfold gO at h;dsimp only at h;split at h
  ·rename_i ht hn
   obtain ⟨h1,rfl,rfl⟩:=eN.dx h;obtain ⟨u,G',w',r1,r2,r3⟩:=ui hi h1 ht hn hx';refine .val (s:=Instr.buildSlice t n (ps.map fun(i,x)=>(i,a.eval x))) rfl ⟨u,G',w',?_,r2,r3⟩;rw [oX];exact r1
  ·exact h.elim
 case load t x=>
  obtain ⟨x0,rfl,h1⟩:=aw.one (u:=a.eval x) hx;obtain ⟨h2,rfl,rfl⟩:=eN.dx h;obtain ⟨u,r1,r2⟩:=zt hi hT.1 h2 h1;exact .val rfl ⟨u,G,w,r1,.refl hi,r2⟩
 case store t x y=>
  obtain ⟨x0,y0,rfl,h1,h2⟩:=aw.two (u:=a.eval x) (v:=a.eval y) hx;obtain ⟨w',r1,r2,rfl⟩:=Jr hi h h1 h2;intro K Q hK;unfold Oper.wp;show Oper.upon P _ a K Q ((do Instr.storeAt t (a.eval x) (a.eval y);Pure.pure Next.skip:Sem Next).run P w)
  rw [Sem.run_bind,r1];exact hK G w' undef r2 ⟨[],rfl,rfl⟩
 case nilCheck x=>
  obtain ⟨x0,rfl,h1⟩:=aw.one (u:=a.eval x) hx;unfold gO at h;dsimp only at h;split at h
  ·rename_i n off he
   injection he with he;subst he
   obtain ⟨rfl,rfl,rfl⟩:=h;obtain ⟨b,h2,h3⟩:=h1;refine .pure hi (u:=a.eval x) ?_ ⟨b,h2,h3⟩;unfold execOp;dsimp only;rw [h3]
  ·rename_i g p q he
   injection he with he;subst he
   obtain ⟨rfl,rfl,rfl⟩:=h;obtain ⟨us,vs,h2,h3,h4⟩:=h1;refine .pure hi (u:=a.eval x) ?_ ⟨us,vs,h2,h3,h4⟩;unfold execOp;dsimp only;rw [h4]
  ·exact h.elim
 case binOp op t x y yt=>
  obtain ⟨x0,y0,rfl,h1,h2⟩:=aw.two (u:=a.eval x) (v:=a.eval y) hx;obtain ⟨h3,rfl,rfl⟩:=eN.dx h;exact .quiet hi (s:=da op t x y (a.eval x) (a.eval y)) rfl (Jm h3 h1 h2 x y)
 case unOp op t x=>
  obtain ⟨x0,rfl,h1⟩:=aw.one (u:=a.eval x) hx;obtain ⟨h3,rfl,rfl⟩:=eN.dx h;exact .quiet hi rfl (Oc h3 h1)
 case convert s d x=>
  obtain ⟨x0,rfl,h1⟩:=aw.one (u:=a.eval x) hx;cases guard with
  |none=>exact .val rfl (Jt hi (show(EK P s d x0 dst lh).Is v f lh lh' from h) h1)
  |some g=>
   obtain ⟨h3,rfl,rfl⟩:=eN.dx (show(lX P s d x0).at.Is v f lh lh' from h);exact .val rfl (sd hi h3 h1)
 case makeSlice t x y=>
  obtain ⟨x0,y0,rfl,h1,h2⟩:=aw.two (u:=a.eval x) (v:=a.eval y) hx;exact .val rfl (xo hi h h1 h2)
 case slice t x lo hi' mx=>
  cases mx with
  |some m=>cases lo<;>cases hi'<;>exact h.elim
  |none=>
   cases lo with
   |none=>
    cases hi' with
    |none=>
     obtain ⟨x0,rfl,h1⟩:=aw.one (u:=a.eval x) hx;obtain ⟨h3,rfl,rfl⟩:=eN.dx h;exact .quiet hi rfl (gQ h3 h1 trivial trivial)
    |some b=>
     obtain ⟨x0,y0,rfl,h1,h2⟩:=aw.two (u:=a.eval x) (v:=a.eval b) hx;obtain ⟨h3,rfl,rfl⟩:=eN.dx h;exact .quiet hi rfl (gQ h3 h1 trivial (zz h2))
   |some q=>
    cases hi' with
    |none=>
     obtain ⟨x0,y0,rfl,h1,h2⟩:=aw.two (u:=a.eval x) (v:=a.eval q) hx;obtain ⟨h3,rfl,rfl⟩:=eN.dx h;exact .quiet hi rfl (gQ h3 h1 (zz h2) trivial)
    |some b=>
     obtain ⟨x0,y0,z0,rfl,h1,h2,h4⟩:=aw.three (u:=a.eval x) (v:=a.eval q) (q:=a.eval b) hx;obtain ⟨h3,rfl,rfl⟩:=eN.dx h;exact .quiet hi rfl (gQ h3 h1 (zz h2) (zz h4))
 case fieldAddr t x f=>
  obtain ⟨x0,rfl,h1⟩:=aw.one (u:=a.eval x) hx;obtain ⟨h3,rfl,rfl⟩:=eN.dx h;exact .quiet hi rfl (nu h3 h1)
 case field t x f=>
  obtain ⟨x0,rfl,h1⟩:=aw.one (u:=a.eval x) hx;obtain ⟨h3,rfl,rfl⟩:=eN.dx h;exact .quiet hi rfl (zk h3 h1)
 case indexAddr t x y=>
  obtain ⟨x0,y0,rfl,h1,h2⟩:=aw.two (u:=a.eval x) (v:=a.eval y) hx;obtain ⟨h3,rfl,rfl⟩:=eN.dx h;exact .quiet hi rfl (nv h3 h1 h2)
 case index t x y=>
  obtain ⟨x0,y0,rfl,h1,h2⟩:=aw.two (u:=a.eval x) (v:=a.eval y) hx;obtain ⟨h3,rfl,rfl⟩:=eN.dx h;exact .quiet hi rfl (zl h3 h1 h2)
 case extract x i=>
  obtain ⟨x0,rfl,h1⟩:=aw.one (u:=a.eval x) hx;unfold gO at h;dsimp only at h;split at h
  ·rename_i l he
   injection he with he;subst he
   obtain ⟨h3,rfl,rfl⟩:=eN.dx h;exact .quiet hi rfl (rZ h3 h1)
  ·exact h.elim
 case call c=>
  obtain ⟨callee,args,argTypes⟩:=c;cases callee
  case builtin b=>
   have hx':aw xs G w (args.toList.map a.eval):=by simpa [Op.operands,Call.operands]using hx
   have ex:∀{us:List Value},args.toList.map a.eval=us->∀(s:Sem Value),(∀cs:Array Bool,builtin b argTypes type cs us.toArray=(do Pure.pure (Next.value (<-s))))->execOp a.eval ⟨dst,.call ⟨.builtin b,args,argTypes⟩,type,pos,after,guard⟩=(do Pure.pure (Next.value (<-s))):=by
    intro us hus s hs;show(do let d<-resolve a.eval ⟨.builtin b,args,argTypes⟩ type;invoke d.target d.args)=_
    unfold resolve;dsimp only;have:args.map a.eval=us.toArray:=by apply Array.ext';simpa using hus
    rw [this];exact hs _
   unfold gO at h;dsimp only at h;split at h
   ·rename_i t h0
    split at h
    ·rename_i x0
     obtain ⟨h3,rfl,rfl⟩:=eN.dx h;obtain ⟨u,us,hl,h1,h2⟩:=hx';obtain rfl:us=[]:=h2;obtain ⟨q,g1,g2⟩:=Jn (ty:=type) h0 h3 (eA (P:=P) (t:=t) (tok:=0) h1);exact .val (s:=Builtin.len_ argTypes type #[u]) (ex hl _ fun cs=>rfl) ⟨q,G,w,g1 w,.refl hi,g2⟩
    ·exact h.elim
   ·rename_i t h0
    split at h
    ·rename_i tx h1x
     split at h
     ·rename_i x0 y0
      obtain ⟨u,us,hl,h1,h2⟩:=hx';obtain ⟨u2,us2,rfl,h3,h4⟩:=h2;obtain rfl:us2=[]:=h4;obtain ⟨q,G',w',g1,g2,g3⟩:=GC (ty:=type) h0 h1x hi h (eA h1) (eA h3);exact .val (s:=Builtin.append_ argTypes type #[u,u2]) (ex hl _ fun cs=>rfl) ⟨q,G',w',g1,g2,g3⟩
     ·exact h.elim
    ·exact h.elim
   ·split at h
    ·rename_i p q
     obtain ⟨rfl,rfl,rfl⟩:=h;obtain ⟨u,us,hl,h1,h2⟩:=hx';obtain ⟨u2,us2,rfl,h3,h4⟩:=h2;obtain rfl:us2=[]:=h4;obtain rfl:u=.int .i64 p:=h1;obtain rfl:u2=.int .i64 q:=h3;refine .val (s:=Builtin.min_ argTypes type #[.int .i64 p,.int .i64 q]) (ex hl _ fun cs=>rfl) ⟨_,G,w,rfl,.refl hi,?_⟩;show Value.int .i64 (if q<p then q else p)=_
     congr 1;split<;>omega
    ·exact h.elim
   ·split at h
    ·rename_i p q
     obtain ⟨rfl,rfl,rfl⟩:=h;obtain ⟨u,us,hl,h1,h2⟩:=hx';obtain ⟨u2,us2,rfl,h3,h4⟩:=h2;obtain rfl:us2=[]:=h4;obtain rfl:u=.int .i64 p:=h1;obtain rfl:u2=.int .i64 q:=h3;refine .val (s:=Builtin.max_ argTypes type #[.int .i64 p,.int .i64 q]) (ex hl _ fun cs=>rfl) ⟨_,G,w,rfl,.refl hi,?_⟩;show Value.int .i64 (if q>p then q else p)=_
     congr 1;split<;>omega
    ·exact h.elim
   ·exact h.elim
  case value F=>
   have hx':aw xs G w (a.eval F::args.toList.map a.eval):=by simpa [Op.operands,Call.operands]using hx
   unfold gO at h;dsimp only at h;split at h
   ·rename_i g p q ys
    obtain ⟨u,us,e,h1,h2⟩:=hx';injection e with e1 e2
    obtain ⟨x1,x2,g1,g2,g3⟩:=h1;intro K Q hK;have hargs:aw (p++oO P argTypes.toList ys++q) G w (x1++us++x2):=(g1.append (vw h2)).append g2;have hrun:(execOp a.eval ⟨dst,.call ⟨.value F,args,argTypes⟩,type,pos,after,guard⟩).run P w=(callFunc g ((x1++us)++x2).toArray).run P w:=by
     have:execOp a.eval ⟨dst,.call ⟨.value F,args,argTypes⟩,type,pos,after,guard⟩=(do let d<-Go.resolve a.eval ⟨.value F,args,argTypes⟩ type;invoke d.target d.args):=rfl
     rw [this];unfold Go.resolve Deferred.ofValue invoke;simp only [e1,g3,Sem.run_bind,Sem.run_pure,Result.andThen_ok];congr 2;apply Array.ext';simp [<-e2]
    unfold Oper.wp;rw [hrun];rcases Ms hX hi hT h hargs (fun u w'=>K (a.put dst u) w') hK with⟨r1,r2⟩|⟨u,w',r1,r2⟩
    ·rw [r1]
     refine r2.mono fun e w' he=>?_;obtain ⟨u,rfl,hk⟩:=he;exact hk
    ·rw [r1]
     exact r2
   ·exact h.elim
  all_goals exact h.elim
 all_goals exact h.elim
theorem xp {T:cO}{X:cM}(hX:df P T X)(hi:Inv cx G lh w)(hm:cx.m<=32)(hT:jb T cx){o:Oper}(hnp:∀c x y,o.op≠.pick c x y){a:Act}{xs:List PV}{v:PV}{f:Option (PV->PV)}{lh':List (Nat×PV)}
 (hx:aw xs G w (o.op.operands.toList.map a.eval))(h:(ja P X T o xs lh).Is v f lh lh'):oW P cx G w o a v f lh':=Ju hX hi hm hT hnp hx (rv h)
theorem Jv {T:cO}{X:cM}(hX:df P T X)(hi:Inv cx G lh w)(hm:cx.m<=32)(hT:jb T cx){o:Oper}(hnp:∀c x y,o.op≠.pick c x y){a:Act}{xs:List PV}{v:PV}{f:Option (PV->PV)}{lh':List (Nat×PV)}
 (hx:aw xs G w (o.op.operands.toList.map a.eval))(h:(iJ P X T o xs lh).Is v f lh lh'):oW P cx G w o a v f lh':=by
 by_cases hc:∃s d x,o.op=.convert s d x
 ·obtain ⟨dst,op,type,pos,after,guard⟩:=o
  obtain ⟨s,d,x,rfl⟩:=hc;obtain ⟨x0,rfl,h1⟩:=aw.one (u:=a.eval x) hx;obtain ⟨h3,rfl,rfl⟩:=eN.dx (show(lX P s d x0).at.Is v f lh lh' from h);exact .val rfl (sd hi h3 h1)
 ·have:iJ P X T o xs lh=ja P X T o xs lh:=by
   unfold iJ;split
   ·rename_i s d x e
    exact absurd ⟨s,d,x,e⟩ hc
   ·rfl
  rw [this]at h;exact xp hX hi hm hT hnp hx h
end
section
variable [Wd] {P:Program} {cx:Cx} {G:Gh} {w:World}
def aQ(ops:Array Oper)(tmps:Array Value)(g:Option (Nat×Bool)):Prop:=match g with
 |none=>True
 |some (j,b)=>yielded ops tmps j=some b
theorem eP(ops:Array Oper)(tmps:Array Value)(o:Oper):Region.wanted o (yielded ops tmps)=true↔aQ ops tmps o.guard:=by
 unfold Region.wanted aQ;cases o.guard with
 |none=>simp
 |some g=>obtain ⟨j,b⟩:=g;simp
structure fU(ops:Array Oper)(N:Nat):Prop where
 apart:∀(i j:Nat) o q d,ops[i]?=some o->ops[j]?=some q->i≠j->o.dst=some d->q.dst≠some d
 guard:∀(k:Nat) o,ops[k]?=some o->∀j b,o.guard=some (j,b)->j<k
 lt:∀(i:Nat) o d,ops[i]?=some o->o.dst=some d->d<N
theorem mr:∀{l:List Oper},xf l=true->∀(i j:Nat) o q d,l[i]?=some o->l[j]?=some q->i<j->o.dst=some d->q.dst≠some d
 |[],h,i,j,o,q,d,h1,h2,hij,hd=>by simp at h1
 |p::l,h,i,j,o,q,d,h1,h2,hij,hd=>by
  unfold xf at h;rw [Bool.and_eq_true]at h;cases j with
  |zero=>omega
  |succ j=>
   have h2':l[j]?=some q:=by simpa using h2
   cases i with
   |zero=>
    have:p=o:=by simpa using h1
    subst this;have h3:=h.1;rw [hd]at h3;have h4:=List.all_eq_true.1 h3 q (List.mem_of_getElem? h2');intro e;rw [e]at h4;simp at h4
   |succ i=>exact mr h.2 i j o q d (by simpa using h1) h2' (by omega) hd
theorem nE {ops:List Oper}:∀{l:List Oper} {n:Nat},jF ops n l=true->∀(k:Nat) o,l[k]?=some o->∀j b,o.guard=some (j,b)->j<n+k
 |[],n,h,k,o,h1,j,b,hg=>by simp at h1
 |p::l,n,h,k,o,h1,j,b,hg=>by
  unfold jF at h;rw [Bool.and_eq_true]at h;cases k with
  |zero=>
   have:p=o:=by simpa using h1
   subst this;have h3:=h.1;rw [hg]at h3;rw [Bool.and_eq_true]at h3;have:=h3.1;simpa using this
  |succ k=>
   have:=nE h.2 k o (by simpa using h1) j b hg;omega
theorem Jw {ops:Array Oper}{N:Nat}(h:u9 N ops.toList=true):fU ops N:=by
 unfold u9 at h;simp only [Bool.and_eq_true]at h;obtain ⟨⟨h1,h2⟩,h3⟩:=h;refine ⟨fun i j o q d hi hj hne hd=>?_,fun k o hk j b hg=>?_,fun i o d hi hd=>?_⟩
 ·rw [<-Array.getElem?_toList]at hi hj
  rcases Nat.lt_or_ge i j with hij|hij
  ·exact mr h1 i j o q d hi hj hij hd
  ·intro e
   exact mr h1 j i q o d hj hi (by omega) e hd
 ·rw [<-Array.getElem?_toList]at hk
  have:=nE h2 k o hk j b hg;omega
 ·rw [<-Array.getElem?_toList]at hi
  have:=List.all_eq_true.1 h3 o (List.mem_of_getElem? hi);rw [hd]at this;simpa using this
structure cW(cx:Cx)(G:Gh)(ops:Array Oper)(N k:Nat)(s:VS)(a:Act)(w:World):Prop where
 inv:Inv cx G s.lh w
 env:∀t x,cP t s.loc=none->b6 t s.env=some x->aN x G w (a.tmps.getD t undef)
 loc:∀t g v,cP t s.loc=some (g,v)->(aQ ops a.tmps g->aN v G w (a.tmps.getD t undef))/\∃i o,i<k/\ops[i]?=some o/\o.guard=g/\o.dst=some t
 chain:∀i o,i<k->ops[i]?=some o->∀b,yielded ops a.tmps i=some b->aQ ops a.tmps o.guard
 size:N<=a.tmps.size
 defers:a.defers=[]
section
variable {ops:Array Oper} {N k:Nat} {s:VS} {a:Act}
theorem si(hr:fU ops N)(hc:∀i o,i<k->ops[i]?=some o->∀b,yielded ops a.tmps i=some b->aQ ops a.tmps o.guard):∀(n:Nat) (g h:Option (Nat×Bool)),dB ops.toList n g h=true->(∀i b,g=some (i,b)->i<k)->aQ ops a.tmps g->aQ ops a.tmps h
 |0,g,h,e,_,_=>by unfold dB at e;cases e
 |n+1,g,h,e,hk,hg=>by
  unfold dB at e;split at e
  ·trivial
  ·rename_i j b
   split at e
   ·cases e
   ·rename_i i c
    rw [Bool.or_eq_true]at e;rcases e with e|e
    ·rw [Bool.and_eq_true]at e
     have h1:=Nat.eq_of_beq_eq_true e.1;have h2:c=b:=by simpa using e.2
     subst h1;subst h2;exact hg
    ·have hik:=hk i c rfl
     cases ho:ops[i]?with
     |none=>
      have:(ops.toList[i]?).bind (·.guard)=none:=by rw [Array.getElem?_toList,ho];rfl
      rw [this]at e;cases n with
      |zero=>unfold dB at e;cases e
      |succ n=>unfold dB at e;cases e
     |some o=>
      have:(ops.toList[i]?).bind (·.guard)=o.guard:=by rw [Array.getElem?_toList,ho];rfl
      rw [this]at e;exact si hr hc n o.guard _ e (fun i' b' hg'=>by have:=hr.guard i o ho i' b' hg';omega) (hc i o hik ho c hg)
theorem sj(v:Value):aN (ofValue v) G w v:=by
 cases v with
 |agg _=>trivial
 |tuple _=>trivial
 |int k z=>exact rfl
 |bool b=>exact rfl
 |string s=>exact rfl
 |_=>exact ⟨rfl,rfl⟩
theorem cW.operand(h:cW cx G ops N k s a w)(hr:fU ops N){g:Option (Nat×Bool)}(hk:∀i b,g=some (i,b)->i<k)(hg:aQ ops a.tmps g)(x:Operand):aN (bD ops.toList g s x) G w (a.eval x):=by
 cases x with
 |tmp t=>
  unfold bD;dsimp only;cases hl:cP t s.loc with
  |none=>
   dsimp only;cases he:b6 t s.env with
   |none=>trivial
   |some x=>exact h.env t x hl he
  |some p=>
   obtain ⟨q,v⟩:=p;dsimp only;cases hgi:dB ops.toList 9 g q with
   |false=>trivial
   |true=>exact (h.loc t q v hl).1 (si hr h.chain 9 g q hgi hk hg)
 |const v=>exact sj v
 |global g=>exact rfl
 |func f=>exact ⟨[],[],rfl,rfl,rfl⟩
theorem cW.operands(h:cW cx G ops N k s a w)(hr:fU ops N){g:Option (Nat×Bool)}(hk:∀i b,g=some (i,b)->i<k)(hg:aQ ops a.tmps g):∀xs:List Operand,aw (xs.map (bD ops.toList g s)) G w (xs.map a.eval)
 |[]=>rfl
 |x::xs=>⟨_,_,rfl,h.operand hr hk hg x,h.operands hr hk hg xs⟩
def tv(f:Option (PV->PV))(y:PV):PV:=match f with |none=>y|some f=>y.cC f
theorem gx(f:Option (PV->PV))(lh:List (Nat×PV))(t:Nat)(s:VS):cP t (s.turn f lh).loc=(cP t s.loc).map fun p=>(p.1,tv f p.2):=by
 cases f with
 |none=>
  show cP t s.loc=_;cases cP t s.loc<;>rfl
 |some f=>
  show cP t (s.loc.map fun e=>(e.1,e.2.1,e.2.2.cC f))=_
  induction s.loc with
  |nil=>rfl
  |cons e l ih=>
   show(bif Nat.beq e.1 t then some (e.2.1,e.2.2.cC f)else cP t (l.map fun e=>(e.1,e.2.1,e.2.2.cC f)))=(bif Nat.beq e.1 t then some e.2 else cP t l).map _
   cases Nat.beq e.1 t with
   |true=>rfl
   |false=>exact ih
theorem jr(f:Option (PV->PV))(lh:List (Nat×PV))(t:Nat)(s:VS):b6 t (s.turn f lh).env=(b6 t s.env).map (tv f):=by
 cases f with
 |none=>
  show b6 t s.env=_;cases b6 t s.env<;>rfl
 |some f=>
  show b6 t (s.env.map fun e=>(e.1,e.2.cC f))=_;exact dT f t s.env
theorem xq(f:Option (PV->PV))(lh:List (Nat×PV))(s:VS):(s.turn f lh).lh=lh:=by cases f<;>rfl
theorem jf {o:Oper}{d:Option Tmp}{u:Value}{j:Nat}(h:∀q t,ops[j]?=some q->q.dst=some t->d≠some t):yielded ops (a.put d u).tmps j=yielded ops a.tmps j:=by
 unfold yielded;cases hj:ops[j]?with
 |none=>rfl
 |some q=>
  simp only [Option.bind_some];cases ht:q.dst with
  |none=>rfl
  |some t=>
   simp only [Option.bind_some];cases d with
   |none=>rfl
   |some d=>
    have hne:d≠t:=fun e=>h q t hj ht (by rw [e]);have e:(a.put (some d) u).tmps[t]?=a.tmps[t]?:=by
     show(a.tmps.setIfInBounds d u)[t]?=_;rw [Array.getElem?_setIfInBounds,if_neg hne]
    rw [e]
theorem iP {d:Option Tmp}{u:Value}{t:Nat}(h:d≠some t):(a.put d u).tmps.getD t undef=a.tmps.getD t undef:=by
 cases d with
 |none=>rfl
 |some d=>
  have hne:d≠t:=fun e=>h (by rw [e]);show(a.tmps.setIfInBounds d u).getD t undef=_;simp only [Array.getD_eq_getD_getElem?,Array.getElem?_setIfInBounds];rw [if_neg hne]
theorem sk {u:Value}{t:Nat}(h:t<a.tmps.size):(a.put (some t) u).tmps.getD t undef=u:=by
 show(a.tmps.setIfInBounds t u).getD t undef=u;simp [Array.getD,h]
theorem sl(a:Act)(d:Option Tmp)(u:Value):(a.put d u).tmps.size=a.tmps.size:=by cases d<;>simp [Act.put]
theorem put_defers(a:Act)(d:Option Tmp)(u:Value):(a.put d u).defers=a.defers:=by cases d<;>rfl
theorem fw {o:Oper}{v:PV}{s:VS}{t:Nat}:cP t (cQ o v s).loc=if o.dst=some t then some (o.guard,v)else cP t s.loc:=by
 unfold cQ;cases hd:o.dst with
 |none=>simp
 |some d=>
  show(bif Nat.beq d t then some (o.guard,v)else cP t s.loc)=_
  by_cases e:d=t
  ·subst e;rw [Nat.beq_refl,if_pos rfl];rfl
  ·rw [if_neg (fun h=>e (by injection h)),show Nat.beq d t=false by rw [Bool.eq_false_iff];exact fun hh=>e (Nat.eq_of_beq_eq_true hh)];rfl
theorem jM {o:Oper}{v:PV}{s:VS}:(cQ o v s).env=s.env/\(cQ o v s).lh=s.lh:=by
 unfold cQ;cases o.dst<;>exact ⟨rfl,rfl⟩
theorem cW.push(h:cW cx G ops N k s a w)(hr:fU ops N){o:Oper}(ho:ops[k]?=some o){f:Option (PV->PV)}{lh':List (Nat×PV)}{G':Gh}{w':World}(tr:dI cx G w f lh' G' w'){v:PV}{u:Value}
 (hv:aQ ops a.tmps o.guard->aN v G' w' u)(hb:¬aQ ops a.tmps o.guard->u=undef):cW cx G' ops N (k+1) (cQ o v (s.turn f lh')) (a.put o.dst u) w':=by
 have gon:∀{i:Nat} {q:Oper},i<=k->ops[i]?=some q->(aQ ops (a.put o.dst u).tmps q.guard↔aQ ops a.tmps q.guard):=by
  intro i q hik hq;unfold aQ;cases hg:q.guard with
  |none=>exact Iff.rfl
  |some p=>
   obtain ⟨j,b⟩:=p;have hj:=hr.guard i q hq j b hg;dsimp only;rw [jf (o:=o) fun q' t hq' ht e=>hr.apart k j o q' t ho hq' (by omega) e ht]
 refine ⟨by rw [jM.2,xq];exact tr.inv,fun t x hl he=>?_,fun t g x hl=>?_,fun i q hi hq b hy=>?_,by rw [sl];exact h.size,by rw [put_defers];exact h.defers⟩
 ·rw [fw]at hl
  split at hl
  ·cases hl
  ·rename_i hd
   rw [gx]at hl;rw [jM.1,jr]at he;rw [Option.map_eq_some_iff]at he;obtain ⟨y,hy,rfl⟩:=he;rw [iP hd];exact tr.rep _ _ (h.env t y (by simpa using hl) hy)
 ·rw [fw]at hl
  split at hl
  ·rename_i hd
   injection hl with hl;injection hl with h1 h2;subst h1;subst h2
   have hlt:t<a.tmps.size:=Nat.lt_of_lt_of_le (hr.lt k o t ho hd) h.size;refine ⟨fun hg=>?_,k,o,by omega,ho,rfl,hd⟩;rw [hd,sk hlt];exact hv ((gon (Nat.le_refl k) ho).1 hg)
  ·rename_i hd
   rw [gx,Option.map_eq_some_iff]at hl;obtain ⟨⟨g',y⟩,hy,e⟩:=hl;injection e with e1 e2;subst e1;subst e2
   obtain ⟨h1,i,q,hi,hq,hg1,hd1⟩:=h.loc t g' y hy;refine ⟨fun hg=>?_,i,q,by omega,hq,hg1,hd1⟩;rw [iP hd];refine tr.rep _ _ (h1 ?_);rw [<-hg1]at hg⊢;exact (gon (by omega) hq).1 hg
 ·by_cases hik:i=k
  ·subst hik
   rw [ho]at hq;injection hq with hq;subst hq
   rw [gon (Nat.le_refl _) ho];refine Classical.byContradiction fun hng=>?_;have hu:=hb hng;subst hu;unfold yielded at hy;rw [ho]at hy;simp only [Option.bind_some]at hy;cases hd:o.dst with
   |none=>rw [hd]at hy;cases hy
   |some d=>
    rw [hd]at hy;simp only [Option.bind_some]at hy;have hlt:d<a.tmps.size:=Nat.lt_of_lt_of_le (hr.lt _ o d ho hd) h.size;replace hy:(match(a.tmps.setIfInBounds d undef)[d]?with |some (.bool b)=>some b|_=>none)=some b:=hy
    rw [Array.getElem?_setIfInBounds,if_pos rfl,if_pos hlt]at hy;cases hy
  ·rw [jf (o:=o) fun q' t hq' ht e=>hr.apart k i o q' t ho hq' (by omega) e ht]at hy
   exact (gon (by omega) hq).2 (h.chain i q (by omega) hq b hy)
theorem oY(h:cW cx G ops N k s a w)(hr:fU ops N):∀(n:Nat) (g:Option (Nat×Bool)) (p:Prop),fu ops.toList s n g p->(∀i b,g=some (i,b)->i<k)->aQ ops a.tmps g->p
 |0,g,p,hu,_,_=>by unfold fu at hu;exact hu.elim
 |n+1,g,p,hu,hk,hg=>by
  unfold fu at hu;split at hu
  ·exact hu
  ·rename_i j wv
   split at hu
   ·exact hu.elim
   ·rename_i o ho
    have ho':ops[j]?=some o:=by rw [<-Array.getElem?_toList];exact ho
    split at hu
    ·rename_i x g' b hl
     rw [Option.bind_eq_some_iff]at hl;obtain ⟨t,ht,hl⟩:=hl;have hjk:=hk j wv rfl;obtain ⟨h1,i,q,hi,hq,hg1,hd1⟩:=h.loc t g' (.bool b) hl;have hij:i=j:=Classical.byContradiction fun hne=>hr.apart i j q o t hq ho' hne hd1 ht;subst hij;rw [ho']at hq;injection hq with hq;subst hq
     have hgo:=h.chain i o hi ho' wv hg;have hrep:=h1 (by rw [<-hg1];exact hgo);have hbw:b=wv:=by
      have hy:yielded ops a.tmps i=some wv:=hg;unfold yielded at hy;rw [ho']at hy;simp only [Option.bind_some,ht]at hy;have hlt:t<a.tmps.size:=Nat.lt_of_lt_of_le (hr.lt _ o t ho' ht) h.size;have e:a.tmps[t]?=some (.bool b):=by
       have:a.tmps.getD t undef=.bool b:=hrep;rw [Array.getD,dif_pos hlt]at this;rw [Array.getElem?_eq_getElem hlt];exact congrArg some this
      rw [e]at hy;injection hy
     have:=oY h hr n o.guard _ hu (fun i' b' hg'=>by have:=hr.guard i o ho' i' b' hg';omega) hgo;subst hbw;cases b with
     |true=>exact this rfl
     |false=>exact this rfl
    ·exact hu.elim
theorem cW.does {T:cO}{X:cM}(h:cW cx G ops N k s a w)(hX:df P T X)(hm:cx.m<=32)(hT:jb T cx)(hr:fU ops N){o:Oper}(ho:ops[k]?=some o)(hg:aQ ops a.tmps o.guard){v:PV}{f:Option (PV->PV)}{lh':List (Nat×PV)}
 (he:(ja P X T o (bu ops.toList o s) s.lh).Is v f s.lh lh'):oW P cx G w o a v f lh':=by
 have hk:∀i b,o.guard=some (i,b)->i<k:=hr.guard k o ho;by_cases hp:∃c x y,o.op=.pick c x y
 ·obtain ⟨c,x,y,hop⟩:=hp
  have base:aw ([c,x,y].map (bD ops.toList o.guard s)) G w ([c,x,y].map a.eval):=h.operands hr hk hg _;have hc:aN (bD ops.toList o.guard s c) G w (a.eval c):=h.operand hr hk hg c;have fin:∀(b:Bool) (p q:PV),ja P X T o [.bool b,p,q] s.lh=.val (rN b p q)->a.eval c=.bool b->(b=true->aN p G w (a.eval x))->(b=false->aN q G w (a.eval y))->(ja P X T o [.bool b,p,q] s.lh).Is v f s.lh lh'->oW P cx G w o a v f lh':=by
   intro b p q hev hcb h1 h2 hI;rw [hev]at hI;obtain ⟨rfl,rfl,rfl⟩:=hI;refine .pure h.inv (u:=if b=true then a.eval x else a.eval y) ?_ (ES h1 h2)
   unfold execOp;rw [hop];dsimp only;rw [hcb];cases b<;>rfl
  have ev:∀b p q,ja P X T o [.bool b,p,q] s.lh=.val (rN b p q):=by
   intro b p q;unfold ja gO;rw [hop];rfl
  have evn:∀z p q,(∀b,z≠PV.bool b)->¬(ja P X T o [z,p,q] s.lh).Is v f s.lh lh':=by
   intro z p q hz hI;replace hI:=rv hI;unfold gO at hI;rw [hop]at hI;dsimp only at hI;cases z<;>first|exact hz _ rfl|exact hI
  unfold bu at he;rw [hop]at he;dsimp only at he;cases hpg:jB ops.toList s c with
  |none=>
   rw [hpg]at he;dsimp only at he;replace he:(ja P X T o [bD ops.toList o.guard s c,bD ops.toList o.guard s x,bD ops.toList o.guard s y] s.lh).Is v f s.lh lh':=he;generalize hz:bD ops.toList o.guard s c=z at he hc;cases z with
   |bool b=>exact fin b _ _ (ev b _ _) hc (fun _=>h.operand hr hk hg x) (fun _=>h.operand hr hk hg y) he
   |_=>exact absurd he (evn _ _ _ (fun b e=>by cases e))
  |some j=>
   rw [hpg]at he;dsimp only at he;generalize hz:bD ops.toList o.guard s c=z at he hc;cases z with
   |bool b=>
    have hcb:a.eval c=.bool b:=hc;unfold jB at hpg;split at hpg
    ·rename_i t
     split at hpg
     ·rename_i q hl
      obtain ⟨h1,i,o',hi,ho',hg1,hd1⟩:=h.loc t q.1 q.2 hl;have hj:=List.findIdx?_eq_some_iff_getElem.1 hpg;obtain ⟨hjl,hj2,-⟩:=hj;have hjo:ops[j]?=some (ops.toList[j]):=by rw [<-Array.getElem?_toList];exact List.getElem?_eq_getElem hjl
      have hjd:(ops.toList[j]).dst=some t:=by
       cases hd:(ops.toList[j]).dst with
       |none=>rw [hd]at hj2;cases hj2
       |some d=>rw [hd]at hj2;rw [Nat.eq_of_beq_eq_true hj2]
      have hij:i=j:=Classical.byContradiction fun hne=>hr.apart i j o' _ t ho' hjo hne hd1 hjd;subst hij;have hlt:t<a.tmps.size:=Nat.lt_of_lt_of_le (hr.lt _ _ t hjo hjd) h.size;have hy:yielded ops a.tmps i=some b:=by
       unfold yielded;rw [hjo];simp only [Option.bind_some,hjd];have e:a.tmps[t]?=some (.bool b):=by
        have:a.tmps.getD t undef=.bool b:=hcb;rw [Array.getD,dif_pos hlt]at this;rw [Array.getElem?_eq_getElem hlt];exact congrArg some this
       rw [e]
      refine fin b _ _ (ev b _ _) hcb (fun hb=>?_) (fun hb=>?_) he
      ·subst hb
       exact h.operand hr (g:=some (i,true)) (fun i' b' e=>by injection e with e;injection e with e1 e2;omega) hy x
      ·subst hb
       exact h.operand hr (g:=some (i,false)) (fun i' b' e=>by injection e with e;injection e with e1 e2;omega) hy y
     ·cases hpg
    ·cases hpg
   |_=>exact absurd he (evn _ _ _ (fun b e=>by cases e))
 ·have hnp:∀c x y,o.op≠.pick c x y:=fun c x y e=>hp ⟨c,x,y,e⟩
  have:bu ops.toList o s=o.op.operands.toList.map (bD ops.toList o.guard s):=by
   unfold bu;split
   ·rename_i c x y e
    exact absurd e (hnp c x y)
   ·rfl
  rw [this]at he;exact xp hX h.inv hm hT hnp (h.operands hr hk hg _) he
theorem oZ {f:PV->(PV->Prop)->Prop}(hf:∀x k,f x k=k x):∀(l:List PV) (k:List PV->Prop),mm f l k=k l
 |[],k=>rfl
 |x::l,k=>by unfold mm;rw [hf,oZ hf l]
theorem vx(r:al)(k:al->Prop):rP r k=k r:=by cases r<;>rfl
theorem bJ:∀(n:Nat) (x:PV) (k:PV->Prop),cI n x k=k x
 |0,x,k=>rfl
 |n+1,x,k=>by
  cases x with
  |arr m r=>show rP r (fun r=>k (.arr m r))=_;exact vx r _
  |row nl r t=>show rP r (fun r=>k (.row nl r t))=_;exact vx r _
  |agg l=>show mm (cI n) l (fun l=>k (.agg l))=_;exact oZ (bJ n) l _
  |tup l=>show mm (cI n) l (fun l=>k (.tup l))=_;exact oZ (bJ n) l _
  |_=>rfl
theorem gy:∀(l:List (Nat×PV)) (k:List (Nat×PV)->Prop),dL l k=k l
 |[],k=>rfl
 |e::l,k=>by unfold dL;rw [bJ,gy l]
theorem cW.lit(h:cW cx G ops N k s a w){t:Nat}{b:Bool}{q:Option (Nat×Bool)}(hl:cP t s.loc=some (q,.bool b)):cW cx G ops N k {s with loc:=(t,q,.bool b)::s.loc} a w:=by
 have look:∀t',cP t' ((t,q,PV.bool b)::s.loc)=if t=t' then some (q,.bool b)else cP t' s.loc:=fun t'=>by
  show(bif Nat.beq t t' then _ else _)=_
  by_cases e:t=t'
  ·subst e;rw [Nat.beq_refl];simp
  ·have:Nat.beq t t'=false:=by rw [Bool.eq_false_iff];exact fun h=>e (Nat.eq_of_beq_eq_true h)
   rw [this,if_neg e];rfl
 refine ⟨h.inv,fun t' x hn he=>?_,fun t' g v hv=>?_,h.chain,h.size,h.defers⟩
 ·rw [look]at hn
  split at hn
  ·cases hn
  ·exact h.env t' x hn he
 ·rw [look]at hv
  split at hv
  ·rename_i e
   subst e;injection hv with hv;injection hv with e1 e2;subst e1;subst e2
   exact h.loc t q _ hl
  ·exact h.loc t' g v hv
theorem cW.Cw(h:cW cx G ops N k s a w)(hr:fU ops N){j:Nat}{o:Oper}{t:Nat}{want:Bool}(ho:ops[j]?=some o)(hd:o.dst=some t)(hgo:aQ ops a.tmps o.guard){A B:VS->Prop}(hs:Go.Vc.Cw t want s A B):
 (aQ ops a.tmps (some (j,want))/\∃s',A s'/\cW cx G ops N k s' a w/\s'.lh=s.lh)\/(¬aQ ops a.tmps (some (j,want))/\∃s',B s'/\cW cx G ops N k s' a w/\s'.lh=s.lh):=by
 unfold Go.Vc.Cw at hs;split at hs
 ·rename_i q b hl
  obtain ⟨h1,i,o',hi,ho',hg',hd'⟩:=h.loc t q _ hl;have hij:i=j:=Classical.byContradiction fun hne=>hr.apart i j o' o t ho' ho hne hd' hd;subst hij;rw [ho]at ho';injection ho' with ho';subst ho'
  have hrep:a.tmps.getD t undef=.bool b:=h1 (by rw [<-hg'];exact hgo);have hlt:t<a.tmps.size:=Nat.lt_of_lt_of_le (hr.lt i o t ho hd) h.size;have hy:yielded ops a.tmps i=some b:=by
   unfold yielded;rw [ho];simp only [Option.bind_some,hd];have e:a.tmps[t]?=some (.bool b):=by
    rw [Array.getD,dif_pos hlt]at hrep;rw [Array.getElem?_eq_getElem hlt];exact congrArg some hrep
   rw [e]
  have hon:aQ ops a.tmps (some (i,want))↔b=want:=by
   show yielded ops a.tmps i=some want↔_;rw [hy];simp
  have hlit:=h.lit hl;by_cases hb:b=want
  ·refine .inl ⟨hon.2 hb,_,hs.1 hb,?_,rfl⟩
   rw [<-hb];exact hlit
  ·have hb':b=!want:=by cases b<;>cases want<;>simp_all
   refine .inr ⟨fun hh=>hb (hon.1 hh),_,hs.2 hb',?_,rfl⟩;rw [<-hb'];exact hlit
 ·exact hs.elim
theorem cW.off(h:cW cx G ops N k s a w){j:Nat}{o:Oper}{t:Nat}{g:Nat×Bool}{v:PV}(ho:ops[j]?=some o)(hd:o.dst=some t)(hg:o.guard=some g)(hjk:j<k)(hoff:¬aQ ops a.tmps (some g)):cW cx G ops N k {s with loc:=(t,some g,v)::s.loc} a w:=by
 have look:∀t',cP t' ((t,some g,v)::s.loc)=if t=t' then some (some g,v)else cP t' s.loc:=fun t'=>by
  show(bif Nat.beq t t' then _ else _)=_
  by_cases e:t=t'
  ·subst e;rw [Nat.beq_refl];simp
  ·have:Nat.beq t t'=false:=by rw [Bool.eq_false_iff];exact fun h=>e (Nat.eq_of_beq_eq_true h)
   rw [this,if_neg e];rfl
 refine ⟨h.inv,fun t' x hn he=>?_,fun t' q y hv=>?_,h.chain,h.size,h.defers⟩
 ·rw [look]at hn
  split at hn
  ·cases hn
  ·exact h.env t' x hn he
 ·rw [look]at hv
  split at hv
  ·rename_i e
   subst e;injection hv with hv;injection hv with e1 e2;subst e1;subst e2
   exact ⟨fun hh=>absurd hh hoff,j,o,hjk,ho,hg,hd⟩
  ·exact h.loc t' q y hv
theorem cW.split(hr:fU ops N):∀(n:Nat) {s:VS} {g:Nat×Bool} {A B:VS->Prop},cW cx G ops N k s a w->g.1<k->rQ ops.toList n s g A B->
 (aQ ops a.tmps (some g)/\∃s',A s'/\cW cx G ops N k s' a w/\s'.lh=s.lh)\/(¬aQ ops a.tmps (some g)/\∃s',B s'/\cW cx G ops N k s' a w/\s'.lh=s.lh)
 |0,s,g,A,B,_,_,hs=>hs.elim
 |n+1,s,(j,want),A,B,h,hjk,hs=>by
  unfold rQ at hs;split at hs
  ·rename_i o ho
   rw [Array.getElem?_toList]at ho;split at hs
   ·rename_i t hd
    split at hs
    ·rename_i hg
     exact h.Cw hr ho hd (by rw [hg];trivial) hs
    ·rename_i g' hg
     have hlt:=hr.guard j o ho g'.1 g'.2 hg;rcases cW.split hr n h (by show g'.1<k;dsimp only at hjk;omega) hs with⟨hon,s1,hA,h1,e1⟩|⟨hoff,s1,hB,h1,e1⟩
     ·rcases h1.Cw hr ho hd (by rw [hg];exact hon) hA with⟨q1,s2,q2,q3,q4⟩|⟨q1,s2,q2,q3,q4⟩
      ·exact .inl ⟨q1,s2,q2,q3,q4.trans e1⟩
      ·exact .inr ⟨q1,s2,q2,q3,q4.trans e1⟩
     ·refine .inr ⟨fun hh=>hoff ?_,_,hB,h1.off ho hd hg hjk hoff,e1⟩
      have:=h.chain j o hjk ho want hh;rw [hg]at this;exact this
   ·exact hs.elim
  ·exact hs.elim
theorem kP {T:cO}{X:cM}(hX:df P T X)(hm:cx.m<=32)(hT:jb T cx)(hr:fU ops N){Q:Exit->Act->World->Prop}{K:VS->Prop}(hQ:∀G s a w,cW cx G ops N ops.size s a w->K s->Q .normal a w):
 ∀(rest:List Oper) (k:Nat) (s:VS) (a:Act) (w:World) (G:Gh),ops.toList.drop k=rest->k<=ops.size->cW cx G ops N k s a w->gP P X T ops.toList rest s K->wpList P ops Q rest a w
 |[],k,s,a,w,G,hd,hk,h,he=>by
  have:k=ops.size:=by
   have:=List.drop_eq_nil_iff.1 hd;simp at this;omega
  subst this;exact hQ G s a w h he
 |o::os,k,s,a,w,G,hd,hk,h,he=>by
  have ho:ops[k]?=some o:=by
   rw [<-Array.getElem?_toList];have:=congrArg (fun l=>l[0]?) hd;simpa using this
  have hd':ops.toList.drop (k+1)=os:=by
   rw [<-List.drop_drop,hd];rfl
  have hk':k+1<=ops.size:=(Array.getElem?_eq_some_iff.1 ho).1;have off:∀v,¬aQ ops a.tmps o.guard->gP P X T ops.toList os (cQ o v s) K->wpList P ops Q (o::os) a w:=by
   intro v hng he';show if _ then _ else _
   rw [if_neg (by rw [eP];exact hng)];exact kP hX hm hT hr hQ os (k+1) _ _ w G hd' hk' (h.push hr ho (.refl h.inv) (v:=v) (u:=undef) (fun hg=>absurd hg hng) (fun _=>rfl)) he'
  have on:∀v f lh',aQ ops a.tmps o.guard->(ja P X T o (bu ops.toList o s) s.lh).Is v f s.lh lh'->gP P X T ops.toList os (cQ o v (s.turn f lh')) K->wpList P ops Q (o::os) a w:=by
   intro v f lh' hg hI he';show if _ then _ else _
   rw [if_pos ((eP ops a.tmps o).2 hg)];left;refine h.does hX hm hT hr ho hg hI _ _ fun G' w' u tr hv=>?_;exact kP hX hm hT hr hQ os (k+1) _ _ w' G' hd' hk' (h.push hr ho tr (fun _=>hv) (fun hng=>absurd hg hng)) he'
  have offS:∀(s':VS) v,cW cx G ops N k s' a w->¬aQ ops a.tmps o.guard->gP P X T ops.toList os (cQ o v s') K->wpList P ops Q (o::os) a w:=by
   intro s' v h' hng he';show if _ then _ else _
   rw [if_neg (by rw [eP];exact hng)];exact kP hX hm hT hr hQ os (k+1) _ _ w G hd' hk' (h'.push hr ho (.refl h'.inv) (v:=v) (u:=undef) (fun hg=>absurd hg hng) (fun _=>rfl)) he'
  have onS:∀(s':VS) v f lh',cW cx G ops N k s' a w->aQ ops a.tmps o.guard->(ja P X T o (bu ops.toList o s) s.lh).Is v f s.lh lh'->gP P X T ops.toList os (cQ o v (s'.turn f lh')) K->wpList P ops Q (o::os) a w:=by
   intro s' v f lh' h' hg hI he';show if _ then _ else _
   rw [if_pos ((eP ops a.tmps o).2 hg)];left;refine h.does hX hm hT hr ho hg hI _ _ fun G' w' u tr hv=>?_;exact kP hX hm hT hr hQ os (k+1) _ _ w' G' hd' hk' (h'.push hr ho tr (fun _=>hv) (fun hng=>absurd hg hng)) he'
  unfold gP at he;split at he
  ·rename_i v hev
   rw [bJ]at he;by_cases hg:aQ ops a.tmps o.guard
   ·exact on v none s.lh hg (by rw [hev];exact ⟨rfl,rfl,rfl⟩) he
   ·exact off v hg he
  ·rename_i p v hev hgn
   rw [bJ]at he;have hg:aQ ops a.tmps o.guard:=by rw [hgn];trivial
   exact on v none s.lh hg (by rw [hev];exact ⟨he.1,rfl,rfl,rfl⟩) he.2
  ·rename_i p v g hev hgs
   rw [bJ]at he;by_cases hg:aQ ops a.tmps o.guard
   ·have hp:p:=oY h hr 9 _ p (by rw [hgs]at *;exact he.1) (hr.guard k o ho) hg
    exact on v none s.lh hg (by rw [hev];exact ⟨hp,rfl,rfl,rfl⟩) he.2
   ·exact off v hg he.2
  ·rename_i v f lh' hev hgn
   rw [bJ]at he;have hg:aQ ops a.tmps o.guard:=by rw [hgn];trivial
   exact on v f lh' hg (by rw [hev];exact ⟨rfl,rfl,rfl⟩) he
  ·rename_i p v f lh' hev hgn
   rw [bJ]at he;have hg:aQ ops a.tmps o.guard:=by rw [hgn];trivial
   exact on v f lh' hg (by rw [hev];exact ⟨he.1,rfl,rfl,rfl⟩) he.2
  ·rename_i v f lh' g hev hgs
   rcases cW.split hr 4 h (hr.guard k o ho g.1 g.2 hgs) he with⟨hg,s',hA,h',hlh⟩|⟨hg,s',hB,h',hlh⟩
   ·rw [bJ]at hA
    exact onS s' v f lh' h' (by rw [hgs];exact hg) (by rw [hev];exact ⟨rfl,rfl,rfl⟩) hA
   ·exact offS s' .undef h' (by rw [hgs];exact hg) hB
  ·rename_i p v f lh' g hev hgs
   rcases cW.split hr 4 h (hr.guard k o ho g.1 g.2 hgs) he with⟨hg,s',hA,h',hlh⟩|⟨hg,s',hB,h',hlh⟩
   ·obtain ⟨hp,hA⟩:=hA
    rw [bJ]at hA;exact onS s' v f lh' h' (by rw [hgs];exact hg) (by rw [hev];exact ⟨hp,rfl,rfl,rfl⟩) hA
   ·exact offS s' .undef h' (by rw [hgs];exact hg) hB
  ·exact he.elim
end
end
section
variable [Wd] {P:Program} {cx:Cx} {G:Gh} {w:World}
theorem iC(a t:Nat):cZ a t=a.testBit t:=by
 unfold cZ;show Nat.beq ((a>>>t)&&&1) 1=_;rw [Nat.testBit,Nat.and_comm];have:(1&&&(a>>>t))=(a>>>t) %2:=by rw [Nat.and_comm];exact Nat.and_one_is_mod _
 rw [this];rcases Nat.mod_two_eq_zero_or_one (a>>>t)with h|h<;>rw [h]<;>rfl
theorem GF(a t s:Nat):cZ (jq a t) s=(cZ a s||decide (t=s)):=by
 rw [iC,iC];show(a|||2^t).testBit s=_;rw [Nat.testBit_or,Nat.testBit_two_pow]
theorem CH(a b s:Nat):cZ (Nat.lor a b) s=(cZ a s||cZ b s):=by
 rw [iC,iC,iC];exact Nat.testBit_or a b s
theorem qi(s:Nat):cZ 0 s=false:=by rw [iC];exact Nat.zero_testBit s
def mv(S:Nat->Bool)(i:Nat):Nat->Bool:=fun k=>S k||decide (k=i)
theorem EY {S:Nat->Bool}{i k:Nat}(h:k≠i):mv S i k=S k:=by unfold mv;rw [decide_eq_false h,Bool.or_false]
theorem vy {S:Nat->Bool}{i:Nat}:mv S i i=true:=by unfold mv;simp
def nG(S:Nat->Bool):Nat->Nat
 |0=>0
 |k+1=>nG S k+(if S k=true then 0 else 1)
theorem o4 {S:Nat->Bool}:∀{n},nG S n=0->∀j,j<n->S j=true
 |0,_,j,h=>by omega
 |n+1,h,j,hj=>by
  unfold nG at h;by_cases e:j=n
  ·subst e
   cases hs:S j with
   |true=>rfl
   |false=>rw [hs]at h;simp at h
  ·exact o4 (n:=n) (S:=S) (Nat.eq_zero_of_add_eq_zero_right h) j (by omega)
theorem sn {S:Nat->Bool}{i:Nat}(hi:S i=false):∀n,nG (mv S i) n+(if i<n then 1 else 0)=nG S n
 |0=>rfl
 |n+1=>by
  have ih:=sn hi n;unfold nG;by_cases e:n=i
  ·subst e
   rw [vy,hi];rw [if_neg (Nat.lt_irrefl n)]at ih;rw [if_pos (Nat.lt_succ_self n),if_pos rfl,if_neg (by simp)];omega
  ·rw [EY e]
   by_cases h:i<n
   ·rw [if_pos h]at ih;rw [if_pos (by omega:i<n+1)];omega
   ·rw [if_neg h]at ih;rw [if_neg (by omega:¬i<n+1)];omega
theorem o5:∀n,nG (fun _=>false) n=n
 |0=>rfl
 |n+1=>by unfold nG;rw [o5 n];rfl
abbrev ry(listed:Array Bool):Nat->Bool:=fun j=>listed.getD j false
theorem xr {listed:Array Bool}{i:Nat}(h:i<listed.size):ry (listed.setIfInBounds i true)=mv (ry listed) i:=by
 funext j
 unfold ry mv;simp only [Array.getD_eq_getD_getElem?,Array.getElem?_setIfInBounds];by_cases e:i=j
 ·subst e;rw [if_pos rfl,if_pos h];simp
 ·rw [if_neg e,decide_eq_false (fun x=>e x.symm),Bool.or_false]
def xt(acc:List Nat)(o:Oper):Nat:=o.after.toList.foldl (fun s e=>if Region.binds .any e then Nat.lor (jq s e.on) (acc.getD e.on 0)else s) 0
theorem vz(acc:List Nat):∀(l:List Edge) (s j:Nat),cZ (l.foldl (fun s e=>if Region.binds .any e then Nat.lor (jq s e.on) (acc.getD e.on 0)else s) s) j=true->cZ s j=true\/∃e∈l,Region.binds .any e=true/\(e.on=j\/cZ (acc.getD e.on 0) j=true)
 |[],s,j,h=>.inl h
 |e::l,s,j,h=>by
  rw [List.foldl_cons]at h;rcases vz acc l _ j h with h|⟨e',h1,h2⟩
  ·split at h
   ·rename_i hb
    rw [CH,GF,Bool.or_eq_true,Bool.or_eq_true]at h;rcases h with(h|h)|h
    ·exact .inl h
    ·exact .inr ⟨e,List.mem_cons_self ..,hb,.inl (of_decide_eq_true h)⟩
    ·exact .inr ⟨e,List.mem_cons_self ..,hb,.inr h⟩
   ·exact .inl h
  ·exact .inr ⟨e',List.mem_cons_of_mem _ h1,h2⟩
theorem so:∀(l:List Oper) (acc:List Nat),∃r,l.foldl (fun(acc:List Nat) o=>acc++[xt acc o]) acc=acc++r/\r.length=l.length/\∀i o,l[i]?=some o->r[i]?=some (xt (acc++r.take i) o)
 |[],acc=>⟨[],by simp,rfl,fun i o h=>by simp at h⟩
 |o::l,acc=>by
  obtain ⟨r,h1,h2,h3⟩:=so l (acc++[xt acc o]);refine ⟨xt acc o::r,by rw [List.foldl_cons,h1,List.append_assoc];rfl,by simp [h2],fun i o' h=>?_⟩;cases i with
  |zero=>simp at h;subst h;simp
  |succ i=>
   have:=h3 i o' (by simpa using h);rw [List.getElem?_cons_succ,this,List.take_succ_cons,List.append_assoc];rfl
theorem xu(ops:List Oper):(bH ops).length=ops.length/\∀i o j,ops[i]?=some o->cZ ((bH ops).getD i 0) j=true->∃e∈o.after,Region.binds .any e=true/\(e.on=j\/cZ ((bH ops).getD e.on 0) j=true):=by
 obtain ⟨r,h1,h2,h3⟩:=so ops [];have e:bH ops=r:=h1;rw [e];refine ⟨h2,fun i o j ho hm=>?_⟩;have hr:=h3 i o ho;rw [List.getD_eq_getElem?_getD,hr]at hm;rcases vz _ _ _ _ (show cZ (o.after.toList.foldl _ 0) j=true from hm)with h|⟨e,h4,h5,h6⟩
 ·rw [qi]at h;cases h
 ·refine ⟨e,Array.mem_toList_iff.1 h4,h5,h6.imp id fun h=>?_⟩
  rw [List.nil_append,List.getD_eq_getElem?_getD,List.getElem?_take]at h;split at h
  ·rw [List.getD_eq_getElem?_getD];exact h
  ·rw [Option.getD_none,qi]at h;cases h
structure QN(ops:List Oper)(bf:List Nat):Prop where
 len:bf.length=ops.length
 bfs:∀i o j,ops[i]?=some o->cZ (bf.getD i 0) j=true->∃e∈o.after,Region.binds .any e=true/\(e.on=j\/cZ (bf.getD e.on 0) j=true)
 dn:∀i o e,ops[i]?=some o->e∈o.after->Region.binds .any e=true->e.on<i
 ap:∀i j x y,i<j->ops[i]?=some x->ops[j]?=some y->cZ (bf.getD j 0) i=true\/oP ops x y=true
theorem zA {ops:List Oper}(h:rO ops (bH ops)=true):QN ops (bH ops):=by
 obtain ⟨h1,h2⟩:=xu ops;unfold rO at h;rw [Bool.and_eq_true]at h;obtain ⟨ha,hb⟩:=h;refine ⟨h1,h2,fun i o e ho he hbi=>?_,fun i j x y hij hx hy=>?_⟩
 ·have:=List.all_eq_true.1 ha (o,i) (List.mem_zipIdx_iff_getElem?.2 ho)
  have:=List.all_eq_true.1 this e (Array.mem_toList_iff.2 he);rw [hbi]at this;simpa using this
 ·have hj:j<(bH ops).length:=by rw [h1];exact (List.getElem?_eq_some_iff.1 hy).1
  have hz:(ops.zip (bH ops))[j]?=some (y,(bH ops)[j]):=List.getElem?_zip_eq_some.2 ⟨hy,List.getElem?_eq_getElem hj⟩;have:=List.all_eq_true.1 hb ((y,(bH ops)[j]),j) (List.mem_zipIdx_iff_getElem?.2 hz);have:=List.all_eq_true.1 this (x,i) (List.mem_zipIdx_iff_getElem?.2 (by rw [List.getElem?_take,if_pos hij];exact hx));rw [Bool.or_eq_true]at this;rw [List.getD_eq_getElem?_getD,List.getElem?_eq_getElem hj];exact this
theorem zB {ops:List Oper}{x y:Oper}{d:Tmp}(h:oP ops x y=true)(hd:x.dst=some d):d∉jd ops y/\y.dst≠some d:=by
 unfold oP at h;rw [hd]at h;dsimp only at h;rw [Bool.and_eq_true,Bool.and_eq_true]at h;obtain ⟨⟨h1,h2⟩,-⟩:=h;refine ⟨fun hm=>?_,by simpa using h2⟩;simp [hm]at h1
theorem xv {ops:List Oper}{x y:Oper}{d:Tmp}(h:oP ops x y=true)(hd:y.dst=some d):d∉jd ops x:=by
 unfold oP at h;rw [hd]at h;dsimp only at h;rw [Bool.and_eq_true]at h;intro hm;have:=h.2;simp [hm]at this
theorem uj {ops:List Oper}{o:Oper}{t:Tmp}(h:Operand.tmp t∈o.op.operands.toList):t∈jd ops o:=
 List.mem_append_left _ (List.mem_filterMap.2 ⟨_,h,rfl⟩)
theorem zC {ops:List Oper}{o q:Oper}{j:Nat}{b:Bool}{d:Tmp}(hg:o.guard=some (j,b))(hq:ops[j]?=some q)(hd:q.dst=some d):d∈jd ops o:=by
 unfold jd;rw [hg];refine List.mem_append_right _ ?_;dsimp only;rw [hq];simp [hd]
def Jx(P:Program)(X:cM)(T:cO)(ops:List Oper)(o:Oper)(s:VS)(v:PV):Prop:=
 iJ P X T o (bu ops o s) s.lh=.val v\/∃p,iJ P X T o (bu ops o s) s.lh=.vneed p v/\(match o.guard with |none=>p|some g=>fu ops s 9 (some g) p)
def Of(P:Program)(X:cM)(T:cO)(ops:List Oper)(o:Oper)(s:VS)(v:PV)(f:Option (PV->PV))(lh:List (Nat×PV)):Prop:=
 (o.guard=none/\(ja P X T o (bu ops o s) s.lh).Is v f s.lh lh)\/(f=none/\lh=s.lh/\(ja P X T o (bu ops o s) s.lh=.val v\/∃p,ja P X T o (bu ops o s) s.lh=.vneed p v/\(match o.guard with |none=>p|some g=>fu ops s 9 (some g) p)))
def GG(P:Program)(X:cM)(T:cO)(ops:List Oper)(bf:List Nat)(j:Nat)(o:Oper)(s s':VS)(v:PV)(f:Option (PV->PV))(lh:List (Nat×PV)):Prop:=
 (kH ops bf j=true/\s'=cQ o v (s.turn f lh)/\Of P X T ops o s v f lh)\/(kH ops bf j=false/\s'=cQ o v s/\Jx P X T ops o s v)
theorem vA {X:cM}{T:cO}{ops:List Oper}{bf:List Nat}{K:VS->Prop}:∀(rest:List Oper) (i:Nat) (s:VS),Gp P X T ops bf rest i s K->
 ∃(st:Nat->VS) (vl:Nat->PV),st 0=s/\(∀j o,rest[j]?=some o->∃f lh,GG P X T ops bf (i+j) o (st j) (st (j+1)) (vl j) f lh)/\K (st rest.length)
 |[],i,s,h=>⟨fun _=>s,fun _=>.undef,rfl,fun j o hj=>by simp at hj,h⟩
 |o::os,i,s,h=>by
  have go:∀v s' f lh,GG P X T ops bf i o s s' v f lh->Gp P X T ops bf os (i+1) s' K->∃(st:Nat->VS) (vl:Nat->PV),st 0=s/\(∀j q,(o::os)[j]?=some q->∃f lh,GG P X T ops bf (i+j) q (st j) (st (j+1)) (vl j) f lh)/\K (st (o::os).length):=by
   intro v s' f lh hv he;obtain ⟨st,vl,h1,h2,h3⟩:=vA os (i+1) _ he;refine ⟨fun |0=>s|j+1=>st j,fun |0=>v|j+1=>vl j,rfl,fun j q hj=>?_,h3⟩;cases j with
   |zero=>
    have:o=q:=by simpa using hj
    subst this;exact ⟨f,lh,by show GG P X T ops bf i o s (st 0) v f lh;rw [h1];exact hv⟩
   |succ j=>
    obtain ⟨f,lh,h4⟩:=h2 j q (by simpa using hj);exact ⟨f,lh,by show GG P X T ops bf (i+(j+1)) q (st j) (st (j+1)) (vl j) f lh;rw [show i+(j+1)=i+1+j by omega];exact h4⟩
  unfold Gp at h;split at h
  ·rename_i hb
   split at h
   ·rename_i v hev
    rw [bJ]at h;exact go v _ none s.lh (.inl ⟨hb,rfl,.inr ⟨rfl,rfl,.inl hev⟩⟩) h
   ·rename_i p v hev hg
    rw [bJ]at h;exact go v _ none s.lh (.inl ⟨hb,rfl,.inr ⟨rfl,rfl,.inr ⟨p,hev,by rw [hg];exact h.1⟩⟩⟩) h.2
   ·rename_i p v g hev hg
    rw [bJ]at h;exact go v _ none s.lh (.inl ⟨hb,rfl,.inr ⟨rfl,rfl,.inr ⟨p,hev,by rw [hg];exact h.1⟩⟩⟩) h.2
   ·rename_i v f lh hev hg
    rw [bJ]at h;exact go v _ f lh (.inl ⟨hb,rfl,.inl ⟨hg,by rw [hev];exact ⟨rfl,rfl,rfl⟩⟩⟩) h
   ·rename_i p v f lh hev hg
    rw [bJ]at h;exact go v _ f lh (.inl ⟨hb,rfl,.inl ⟨hg,by rw [hev];exact ⟨h.1,rfl,rfl,rfl⟩⟩⟩) h.2
   ·exact h.elim
  ·rename_i hb
   split at h
   ·rename_i v hev
    rw [bJ]at h;exact go v _ none s.lh (.inr ⟨hb,rfl,.inl hev⟩) h
   ·rename_i p v hev hg
    rw [bJ]at h;exact go v _ none s.lh (.inr ⟨hb,rfl,.inr ⟨p,hev,by rw [hg];exact h.1⟩⟩) h.2
   ·rename_i p v g hev hg
    rw [bJ]at h;exact go v _ none s.lh (.inr ⟨hb,rfl,.inr ⟨p,hev,by rw [hg];exact h.1⟩⟩) h.2
   ·exact h.elim
structure Jd(P:Program)(X:cM)(T:cO)(ops:List Oper)(bf:List Nat)(s:VS)(st:Nat->VS)(vl:Nat->PV):Prop where
 loc:s.loc=[]
 zero:st 0=s
 step:∀j o,ops[j]?=some o->∃f lh,GG P X T ops bf j o (st j) (st (j+1)) (vl j) f lh
theorem Jd.far {X:cM}{T:cO}{ops:List Oper}{bf:List Nat}{s:VS}{st:Nat->VS}{vl:Nat->PV}(h:Jd P X T ops bf s st vl):∀k,k<=ops.length->
 (∀t g v,cP t (st k).loc=some (g,v)->∃i o,i<k/\ops[i]?=some o/\o.guard=g/\o.dst=some t)/\(∀t,cP t (st k).loc=none->∀i o,i<k->ops[i]?=some o->o.dst≠some t)
 |0,_=>by
  rw [h.zero];exact ⟨(fun t g v hl=>by rw [h.loc]at hl;cases hl),fun t _ i o hi=>by omega⟩
 |k+1,hk=>by
  obtain ⟨h3,h4⟩:=h.far k (by omega);obtain ⟨o,ho⟩:∃o,ops[k]?=some o:=⟨_,List.getElem?_eq_getElem (by omega)⟩;have main:∀f lh,st (k+1)=cQ o (vl k) ((st k).turn f lh)->(∀t g v,cP t (st (k+1)).loc=some (g,v)->∃i o,i<k+1/\ops[i]?=some o/\o.guard=g/\o.dst=some t)/\(∀t,cP t (st (k+1)).loc=none->∀i o,i<k+1->ops[i]?=some o->o.dst≠some t):=by
   intro f lh e;rw [e];refine ⟨fun t g v hl=>?_,fun t hl i q hi hq=>?_⟩
   ·rw [fw]at hl
    split at hl
    ·rename_i hd
     injection hl with hl;injection hl with e1 e2;subst e1
     exact ⟨k,o,by omega,ho,rfl,hd⟩
    ·rw [gx,Option.map_eq_some_iff]at hl
     obtain ⟨⟨g',y⟩,hy,e⟩:=hl;injection e with e1 e2;subst e1
     obtain ⟨i,q,g1,g2,g3,g4⟩:=h3 t g' y hy;exact ⟨i,q,by omega,g2,g3,g4⟩
   ·rw [fw]at hl
    split at hl
    ·cases hl
    ·rename_i hd
     by_cases hik:i=k
     ·subst hik
      rw [ho]at hq;injection hq with hq;subst hq
      exact hd
     ·rw [gx]at hl
      exact h4 t (by simpa using hl) i q (by omega) hq
  obtain ⟨f,lh,hL⟩:=h.step k o ho;rcases hL with⟨-,e,-⟩|⟨-,e,-⟩
  ·exact main f lh e
  ·exact main none (st k).lh (by rw [e];rfl)
theorem Jd.Jy {X:cM}{T:cO}{ops:List Oper}{bf:List Nat}{s:VS}{st:Nat->VS}{vl:Nat->PV}(h:Jd P X T ops bf s st vl){c:Nat}:∀k,c<=k->k<=ops.length->(∀i,c<=i->i<k->kH ops bf i=false)->
 (st k).env=(st c).env/\(st k).lh=(st c).lh/\(∀t g v,cP t (st k).loc=some (g,v)->(∃i o,c<=i/\i<k/\ops[i]?=some o/\o.guard=g/\o.dst=some t/\v=vl i)\/cP t (st c).loc=some (g,v))
 |0,hc,_,_=>by
  obtain rfl:c=0:=by omega
  exact ⟨rfl,rfl,fun t g v hl=>.inr hl⟩
 |k+1,hc,hk,hb=>by
  by_cases hck:c=k+1
  ·subst hck;exact ⟨rfl,rfl,fun t g v hl=>.inr hl⟩
  ·obtain ⟨h1,h2,h3⟩:=h.Jy k (by omega) (by omega) (fun i h1 h2=>hb i h1 (by omega))
   obtain ⟨o,ho⟩:∃o,ops[k]?=some o:=⟨_,List.getElem?_eq_getElem (by omega)⟩;obtain ⟨f,lh,hL⟩:=h.step k o ho;have hbk:=hb k (by omega) (by omega);rcases hL with⟨hb',-,-⟩|⟨-,e,-⟩
   ·rw [hbk]at hb';cases hb'
   ·rw [e]
    refine ⟨by rw [jM.1];exact h1,by rw [jM.2];exact h2,fun t g v hl=>?_⟩;rw [fw]at hl;split at hl
    ·rename_i hd
     injection hl with hl;injection hl with e1 e2;subst e1;subst e2
     exact .inl ⟨k,o,by omega,by omega,ho,rfl,hd,rfl⟩
    ·rcases h3 t g v hl with⟨i,q,g0,g1,g2,g3,g4,g5⟩|hl
     ·exact .inl ⟨i,q,g0,by omega,g2,g3,g4,g5⟩
     ·exact .inr hl
structure fX(cx:Cx)(G:Gh)(ops:Array Oper)(N c:Nat)(s:VS)(vl:Nat->PV)(S:Nat->Bool)(a:Act)(w:World):Prop where
 inv:Inv cx G s.lh w
 old:∀t g v,cP t s.loc=some (g,v)->aQ ops a.tmps g->aN v G w (a.tmps.getD t undef)
 low:∀i,i<c->S i=true
 nobar:∀i,c<=i->S i=true->kH ops.toList (bH ops.toList) i=false
 env:∀t x,(∀i o,S i=true->ops[i]?=some o->o.dst≠some t)->b6 t s.env=some x->aN x G w (a.tmps.getD t undef)
 val:∀i o t,c<=i->S i=true->ops[i]?=some o->o.dst=some t->aQ ops a.tmps o.guard->aN (vl i) G w (a.tmps.getD t undef)
 chain:∀i o,S i=true->ops[i]?=some o->∀b,yielded ops a.tmps i=some b->aQ ops a.tmps o.guard
 down:∀i o e,S i=true->ops[i]?=some o->e∈o.after->Region.binds .any e=true->S e.on=true
 inb:∀i,S i=true->i<ops.size
 size:N<=a.tmps.size
 defers:a.defers=[]
structure kz(ops:Array Oper)(N:Nat):Prop where
 fit:fU ops N
 opn:QN ops.toList (bH ops.toList)
 gdst:∀(k:Nat) (o:Oper),ops[k]?=some o->∀j b,o.guard=some (j,b)->∃(q:Oper) (d:Tmp),ops[j]?=some q/\q.dst=some d
theorem nH {ops:List Oper}:∀{l:List Oper} {n:Nat},jF ops n l=true->∀(k:Nat) o,l[k]?=some o->∀j b,o.guard=some (j,b)->∃q d,ops[j]?=some q/\q.dst=some d
 |[],n,h,k,o,h1,j,b,hg=>by simp at h1
 |p::l,n,h,k,o,h1,j,b,hg=>by
  unfold jF at h;rw [Bool.and_eq_true]at h;cases k with
  |zero=>
   have:p=o:=by simpa using h1
   subst this;have h3:=h.1;rw [hg]at h3;rw [Bool.and_eq_true]at h3;have h4:=h3.2;split at h4
   ·rename_i d hd
    obtain ⟨q,hq,hd⟩:=Option.bind_eq_some_iff.1 hd;exact ⟨q,d,hq,hd⟩
   ·cases h4
  |succ k=>exact nH h.2 k o (by simpa using h1) j b hg
theorem P6 {ops:Array Oper}{N:Nat}(h:u9 N ops.toList=true)(ho:rO ops.toList (bH ops.toList)=true):kz ops N:=by
 refine ⟨Jw h,zA ho,fun k o hk j b hg=>?_⟩;unfold u9 at h;simp only [Bool.and_eq_true]at h;rw [<-Array.getElem?_toList]at hk;obtain ⟨q,d,h1,h2⟩:=nH h.1.2 k o hk j b hg;exact ⟨q,d,by rw [<-Array.getElem?_toList];exact h1,h2⟩
section
variable {ops:Array Oper} {N k c:Nat} {s s0:VS} {a:Act} {vl:Nat->PV} {st:Nat->VS} {S:Nat->Bool} {X:cM} {T:cO}
theorem kz.below(of:kz ops N)(hd:∀i o e,S i=true->ops[i]?=some o->e∈o.after->Region.binds .any e=true->S e.on=true):∀(i:Nat) (o:Oper) (j:Nat),ops[i]?=some o->(∀e∈o.after,Region.binds .any e=true->S e.on=true)->cZ ((bH ops.toList).getD i 0) j=true->S j=true:=by
 intro i
 induction i using Nat.strongRecOn with
 |_ i ih=>
  intro o j ho hok hm;obtain ⟨e,he,hb,h⟩:=of.opn.bfs i o j (by rw [Array.getElem?_toList];exact ho) hm;have hs:=hok e he hb;rcases h with h|h
  ·rw [<-h];exact hs
  ·have hlt:=of.opn.dn i o e (by rw [Array.getElem?_toList];exact ho) he hb
   have hi:i<ops.size:=(Array.getElem?_eq_some_iff.1 ho).1;obtain ⟨o',ho'⟩:∃o',ops[e.on]?=some o':=⟨_,Array.getElem?_eq_getElem (by omega)⟩;exact ih e.on hlt o' j ho' (fun e' he' hb'=>hd e.on o' e' hs ho' he' hb') h
theorem fX.reads(h:fX cx G ops N c s vl S a w)(of:kz ops N){o:Oper}(ho:ops[k]?=some o)(hok:∀e∈o.after,Region.binds .any e=true->S e.on=true){t:Tmp}(ht:t∈jd ops.toList o):
 (∀i q,i<k->ops[i]?=some q->q.dst=some t->S i=true)/\(S k=false->∀i q,S i=true->ops[i]?=some q->q.dst=some t->i<k):=by
 have ho':ops.toList[k]?=some o:=by rw [Array.getElem?_toList];exact ho
 refine ⟨fun i q hi hq hd=>?_,fun hk i q hS hq hd=>?_⟩
 ·have hq':ops.toList[i]?=some q:=by rw [Array.getElem?_toList];exact hq
  rcases of.opn.ap i k q o hi hq' ho' with h1|h1
  ·exact of.below h.down k o i ho hok h1
  ·exact absurd ht (zB h1 hd).1
 ·have hq':ops.toList[i]?=some q:=by rw [Array.getElem?_toList];exact hq
  refine Classical.byContradiction fun hlt=>?_;have hne:i≠k:=fun e=>by rw [e,hk]at hS;cases hS
  rcases of.opn.ap k i o q (by omega) ho' hq' with h1|h1
  ·have:=of.below h.down i q k hq (fun e he hb=>h.down i q e hS hq he hb) h1
   rw [hk]at this;cases this
  ·exact absurd ht (xv h1 hd)
theorem fX.guard(h:fX cx G ops N c s vl S a w)(of:kz ops N){o:Oper}(ho:ops[k]?=some o)(hok:∀e∈o.after,Region.binds .any e=true->S e.on=true):∀j b,o.guard=some (j,b)->S j=true:=by
 intro j b hg;obtain ⟨q,d,hq,hd⟩:=of.gdst k o ho j b hg;exact (h.reads of ho hok (zC hg (by rw [Array.getElem?_toList];exact hq) hd)).1 j q (of.fit.guard k o ho j b hg) hq hd
theorem fX.CI(h:fX cx G ops N c s vl S a w)(of:kz ops N){o:Oper}(ho:ops[k]?=some o)(hS:S k=true):∀j b,o.guard=some (j,b)->S j=true:=
 h.guard of ho fun e he hb=>h.down k o e hS ho he hb
theorem fX.dB(h:fX cx G ops N c s vl S a w)(of:kz ops N):∀(n:Nat) (g q:Option (Nat×Bool)),dB ops.toList n g q=true->(∀i b,g=some (i,b)->S i=true)->aQ ops a.tmps g->aQ ops a.tmps q
 |0,g,q,e,_,_=>by unfold Go.Vc.dB at e;cases e
 |n+1,g,q,e,hk,hg=>by
  unfold Go.Vc.dB at e;split at e
  ·trivial
  ·rename_i j b
   split at e
   ·cases e
   ·rename_i i c
    rw [Bool.or_eq_true]at e;rcases e with e|e
    ·rw [Bool.and_eq_true]at e
     have h1:=Nat.eq_of_beq_eq_true e.1;have h2:c=b:=by simpa using e.2
     subst h1;subst h2;exact hg
    ·have hik:=hk i c rfl
     cases ho:ops[i]?with
     |none=>
      have:(ops.toList[i]?).bind (·.guard)=none:=by rw [Array.getElem?_toList,ho];rfl
      rw [this]at e;cases n with
      |zero=>unfold Go.Vc.dB at e;cases e
      |succ n=>unfold Go.Vc.dB at e;cases e
     |some o=>
      have:(ops.toList[i]?).bind (·.guard)=o.guard:=by rw [Array.getElem?_toList,ho];rfl
      rw [this]at e;exact h.dB of n o.guard _ e (fun i' b' hg'=>h.CI of ho hik i' b' hg') (h.chain i o hik ho c hg)
theorem fX.operand(h:fX cx G ops N c s vl S a w)(of:kz ops N)(tc:Jd P X T ops.toList (bH ops.toList) s0 st vl)(hs:s=st c)(hck:c<=k)(hnb:∀i,c<=i->i<k->kH ops.toList (bH ops.toList) i=false)(hkn:k<=ops.size){g:Option (Nat×Bool)}(hk:∀i b,g=some (i,b)->S i=true)(hg:aQ ops a.tmps g)(x:Operand)
 (hx:∀t,x=.tmp t->(∀i q,i<k->ops[i]?=some q->q.dst=some t->S i=true)/\∀i q,S i=true->ops[i]?=some q->q.dst=some t->i<k):aN (bD ops.toList g (st k) x) G w (a.eval x):=by
 cases x with
 |tmp t=>
  obtain ⟨l1,l2,l3⟩:=tc.Jy k hck (by simpa using hkn) hnb;have l4:=(tc.far k (by simpa using hkn)).2;rw [<-hs]at l1 l2 l3;obtain ⟨x1,x2⟩:=hx t rfl;unfold bD;dsimp only;cases hl:cP t (st k).loc with
  |none=>
   dsimp only;rw [l1];cases he:b6 t s.env with
   |none=>trivial
   |some x=>exact h.env t x (fun i o hS ho hd=>l4 t hl i o (x2 i o hS ho hd) (by rw [Array.getElem?_toList];exact ho) hd) he
  |some p=>
   obtain ⟨q,v⟩:=p;dsimp only;cases hgi:Go.Vc.dB ops.toList 9 g q with
   |false=>trivial
   |true=>
    rcases l3 t q v hl with⟨i,o,g0,g1,g2,rfl,g4,rfl⟩|hl
    ·rw [Array.getElem?_toList]at g2
     exact h.val i o t g0 (x1 i o g1 g2 g4) g2 g4 (h.dB of 9 g _ hgi hk hg)
    ·exact h.old t q v hl (h.dB of 9 g _ hgi hk hg)
 |const v=>exact sj v
 |global g=>exact rfl
 |func f=>exact ⟨[],[],rfl,rfl,rfl⟩
theorem fX.operands(h:fX cx G ops N c s vl S a w)(of:kz ops N)(tc:Jd P X T ops.toList (bH ops.toList) s0 st vl)(hs:s=st c)(hck:c<=k)(hnb:∀i,c<=i->i<k->kH ops.toList (bH ops.toList) i=false)(hkn:k<=ops.size){g:Option (Nat×Bool)}(hk:∀i b,g=some (i,b)->S i=true)(hg:aQ ops a.tmps g):∀xs:List Operand,
 (∀t,Operand.tmp t∈xs->(∀i q,i<k->ops[i]?=some q->q.dst=some t->S i=true)/\∀i q,S i=true->ops[i]?=some q->q.dst=some t->i<k)->aw (xs.map (bD ops.toList g (st k))) G w (xs.map a.eval)
 |[],_=>rfl
 |x::xs,hx=>⟨_,_,rfl,h.operand of tc hs hck hnb hkn hk hg x (fun t e=>hx t (by rw [e];exact List.mem_cons_self ..)),h.operands of tc hs hck hnb hkn hk hg xs fun t ht=>hx t (List.mem_cons_of_mem _ ht)⟩
theorem fX.fu(h:fX cx G ops N c s vl S a w)(of:kz ops N)(tc:Jd P X T ops.toList (bH ops.toList) s0 st vl)(hs:s=st c)(hck:c<=k)(hnb:∀i,c<=i->i<k->kH ops.toList (bH ops.toList) i=false)(hkn:k<=ops.size):∀(n:Nat) (g:Option (Nat×Bool)) (p:Prop),fu ops.toList (st k) n g p->(∀i b,g=some (i,b)->S i=true)->aQ ops a.tmps g->p
 |0,g,p,hu,_,_=>by unfold Go.Vc.fu at hu;exact hu.elim
 |n+1,g,p,hu,hk,hg=>by
  unfold Go.Vc.fu at hu;split at hu
  ·exact hu
  ·rename_i j wv
   split at hu
   ·exact hu.elim
   ·rename_i o ho
    have ho':ops[j]?=some o:=by rw [<-Array.getElem?_toList];exact ho
    split at hu
    ·rename_i x g' b hl
     rw [Option.bind_eq_some_iff]at hl;obtain ⟨t,ht,hl⟩:=hl;have hjS:=hk j wv rfl;obtain ⟨i,q,hi,hq,hg1,hd1⟩:=(tc.far k (by simpa using hkn)).1 t g' (.bool b) hl;rw [Array.getElem?_toList]at hq;have hij:i=j:=Classical.byContradiction fun hne=>of.fit.apart i j q o t hq ho' hne hd1 ht;subst hij;rw [ho']at hq;injection hq with hq;subst hq
     have hgo:=h.chain i o hjS ho' wv hg;have hrep:aN (.bool b) G w (a.tmps.getD t undef):=by
      rcases (tc.Jy k hck (by simpa using hkn) hnb).2.2 t g' (.bool b) hl with⟨i',o',g0,g1,g2,g3,g4,g5⟩|hl
      ·rw [Array.getElem?_toList]at g2
       have:i'=i:=Classical.byContradiction fun hne=>of.fit.apart i' i o' o t g2 ho' hne g4 ht;subst this;rw [g5];exact h.val i' o t g0 hjS ho' ht hgo
      ·exact h.old t g' _ (by rw [hs];exact hl) (by rw [<-hg1];exact hgo)
     have hbw:b=wv:=by
      have hy:yielded ops a.tmps i=some wv:=hg;unfold yielded at hy;rw [ho']at hy;simp only [Option.bind_some,ht]at hy;have hlt:t<a.tmps.size:=Nat.lt_of_lt_of_le (of.fit.lt _ o t ho' ht) h.size;have e:a.tmps[t]?=some (.bool b):=by
       have:a.tmps.getD t undef=.bool b:=hrep;rw [Array.getD,dif_pos hlt]at this;rw [Array.getElem?_eq_getElem hlt];exact congrArg some this
      rw [e]at hy;injection hy
     have:=h.fu of tc hs hck hnb hkn n o.guard _ hu (fun i' b' hg'=>h.CI of ho' hjS i' b' hg') hgo;subst hbw;cases b with
     |true=>exact this rfl
     |false=>exact this rfl
    ·exact hu.elim
theorem fX.does(h:fX cx G ops N c s vl S a w)(hX:df P T X)(hm:cx.m<=32)(hT:jb T cx)(of:kz ops N)(tc:Jd P X T ops.toList (bH ops.toList) s0 st vl)(hs:s=st c)(hck:c<=k)(hnb:∀i,c<=i->i<k->kH ops.toList (bH ops.toList) i=false){o:Oper}(ho:ops[k]?=some o)(hno:S k=false)(hok:∀e∈o.after,Region.binds .any e=true->S e.on=true)(hg:aQ ops a.tmps o.guard){v:PV}{f:Option (PV->PV)}{lh':List (Nat×PV)}
 (he:(iJ P X T o (bu ops.toList o (st k)) s.lh).Is v f s.lh lh'):oW P cx G w o a v f lh':=by
 have hk:∀i b,o.guard=some (i,b)->S i=true:=h.guard of ho hok;have hkn:k<=ops.size:=Nat.le_of_lt (Array.getElem?_eq_some_iff.1 ho).1;have hx:∀t,Operand.tmp t∈o.op.operands.toList->(∀i q,i<k->ops[i]?=some q->q.dst=some t->S i=true)/\∀i q,S i=true->ops[i]?=some q->q.dst=some t->i<k:=fun t ht=>by
  obtain ⟨r1,r2⟩:=h.reads of ho hok (uj (ops:=ops.toList) ht);exact ⟨r1,r2 hno⟩
 by_cases hp:∃c x y,o.op=.pick c x y
 ·obtain ⟨c,x,y,hop⟩:=hp
  have hops:o.op.operands.toList=[c,x,y]:=by rw [hop];rfl
  rw [hops]at hx;have hxc:∀z∈[c,x,y],∀t,z=.tmp t->(∀i q,i<k->ops[i]?=some q->q.dst=some t->S i=true)/\∀i q,S i=true->ops[i]?=some q->q.dst=some t->i<k:=fun z hz t e=>hx t (by rw [<-e];exact hz);have oc:=h.operand of tc hs hck hnb hkn hk hg c (hxc c (by simp));have ev0:∀xs,iJ P X T o xs s.lh=ja P X T o xs s.lh:=fun xs=>by unfold iJ;rw [hop]
  have fin:∀(b:Bool) (p q:PV),iJ P X T o [.bool b,p,q] s.lh=.val (rN b p q)->a.eval c=.bool b->(b=true->aN p G w (a.eval x))->(b=false->aN q G w (a.eval y))->(iJ P X T o [.bool b,p,q] s.lh).Is v f s.lh lh'->oW P cx G w o a v f lh':=by
   intro b p q hev hcb h1 h2 hI;rw [hev]at hI;obtain ⟨rfl,rfl,rfl⟩:=hI;refine .pure h.inv (u:=if b=true then a.eval x else a.eval y) ?_ (ES h1 h2)
   unfold execOp;rw [hop];dsimp only;rw [hcb];cases b<;>rfl
  have ev:∀b p q,iJ P X T o [.bool b,p,q] s.lh=.val (rN b p q):=by
   intro b p q;rw [ev0];unfold ja gO;rw [hop];rfl
  have evn:∀z p q,(∀b,z≠PV.bool b)->¬(iJ P X T o [z,p,q] s.lh).Is v f s.lh lh':=by
   intro z p q hz hI;rw [ev0]at hI;replace hI:=rv hI;unfold gO at hI;rw [hop]at hI;dsimp only at hI;cases z<;>first|exact hz _ rfl|exact hI
  unfold bu at he;rw [hop]at he;dsimp only at he;cases hpg:jB ops.toList (st k) c with
  |none=>
   rw [hpg]at he;dsimp only at he;replace he:(iJ P X T o [bD ops.toList o.guard (st k) c,bD ops.toList o.guard (st k) x,bD ops.toList o.guard (st k) y] s.lh).Is v f s.lh lh':=he;generalize hz:bD ops.toList o.guard (st k) c=z at he oc;cases z with
   |bool b=>exact fin b _ _ (ev b _ _) oc (fun _=>h.operand of tc hs hck hnb hkn hk hg x (hxc x (by simp))) (fun _=>h.operand of tc hs hck hnb hkn hk hg y (hxc y (by simp))) he
   |_=>exact absurd he (evn _ _ _ (fun b e=>by cases e))
  |some j=>
   rw [hpg]at he;dsimp only at he;generalize hz:bD ops.toList o.guard (st k) c=z at he oc;cases z with
   |bool b=>
    have hcb:a.eval c=.bool b:=oc;unfold jB at hpg;split at hpg
    ·rename_i t
     split at hpg
     ·rename_i q hl
      obtain ⟨i,o',hi,ho',hg1,hd1⟩:=(tc.far k (by simpa using hkn)).1 t q.1 q.2 hl;rw [Array.getElem?_toList]at ho';have hj:=List.findIdx?_eq_some_iff_getElem.1 hpg;obtain ⟨hjl,hj2,-⟩:=hj;have hjo:ops[j]?=some (ops.toList[j]):=by rw [<-Array.getElem?_toList];exact List.getElem?_eq_getElem hjl
      have hjd:(ops.toList[j]).dst=some t:=by
       cases hd:(ops.toList[j]).dst with
       |none=>rw [hd]at hj2;cases hj2
       |some d=>rw [hd]at hj2;rw [Nat.eq_of_beq_eq_true hj2]
      have hij:i=j:=Classical.byContradiction fun hne=>of.fit.apart i j o' _ t ho' hjo hne hd1 hjd;subst hij;have hS:S i=true:=(hxc _ (by simp) t rfl).1 i _ hi hjo hjd;have hlt:t<a.tmps.size:=Nat.lt_of_lt_of_le (of.fit.lt _ _ t hjo hjd) h.size;have hy:yielded ops a.tmps i=some b:=by
       unfold yielded;rw [hjo];simp only [Option.bind_some,hjd];have e:a.tmps[t]?=some (.bool b):=by
        have:a.tmps.getD t undef=.bool b:=hcb;rw [Array.getD,dif_pos hlt]at this;rw [Array.getElem?_eq_getElem hlt];exact congrArg some this
       rw [e]
      refine fin b _ _ (ev b _ _) hcb (fun hb=>?_) (fun hb=>?_) he
      ·subst hb
       exact h.operand of tc hs hck hnb hkn (g:=some (i,true)) (fun i' b' e=>by injection e with e;injection e with e1 e2;rw [<-e1];exact hS) hy x (hxc x (by simp))
      ·subst hb
       exact h.operand of tc hs hck hnb hkn (g:=some (i,false)) (fun i' b' e=>by injection e with e;injection e with e1 e2;rw [<-e1];exact hS) hy y (hxc y (by simp))
     ·cases hpg
    ·cases hpg
   |_=>exact absurd he (evn _ _ _ (fun b e=>by cases e))
 ·have hnp:∀c x y,o.op≠.pick c x y:=fun c x y e=>hp ⟨c,x,y,e⟩
  have:bu ops.toList o (st k)=o.op.operands.toList.map (bD ops.toList o.guard (st k)):=by
   unfold bu;split
   ·rename_i c x y e
    exact absurd e (hnp c x y)
   ·rfl
  rw [this]at he;exact Jv hX h.inv hm hT hnp (h.operands of tc hs hck hnb hkn hk hg _ hx) he
theorem fX.push(h:fX cx G ops N c s vl S a w)(of:kz ops N){o:Oper}(ho:ops[k]?=some o)(hno:S k=false)(hok:∀e∈o.after,Region.binds .any e=true->S e.on=true){G':Gh}{w':World}(tr:dI cx G w none s.lh G' w'){u:Value}
 (hv:aQ ops a.tmps o.guard->aN (vl k) G' w' u)(hb:¬aQ ops a.tmps o.guard->u=undef)(hck:c<=k)(hbk:kH ops.toList (bH ops.toList) k=false)(hold:∀t g v,cP t s.loc=some (g,v)->∃i q,i<c/\ops[i]?=some q/\q.guard=g/\q.dst=some t):fX cx G' ops N c s vl (mv S k) (a.put o.dst u) w':=by
 have inA:∀{i},mv S k i=true->i=k\/(i≠k/\S i=true):=fun {i} hi=>by
  by_cases e:i=k
  ·exact .inl e
  ·rw [EY e]at hi;exact .inr ⟨e,hi⟩
 have gon:∀{i:Nat} {q:Oper},ops[i]?=some q->(i=k\/S i=true)->(aQ ops (a.put o.dst u).tmps q.guard↔aQ ops a.tmps q.guard):=by
  intro i q hq hi;unfold aQ;cases hg:q.guard with
  |none=>exact Iff.rfl
  |some p=>
   obtain ⟨j,b⟩:=p;have hjk:j≠k:=by
    rcases hi with hi|hi
    ·subst hi
     have:=of.fit.guard i q hq j b hg;omega
    ·intro e
     have:=h.CI of hq hi j b hg;rw [e,hno]at this;cases this
   dsimp only;rw [jf (o:=o) fun q' t hq' ht e=>of.fit.apart k j o q' t ho hq' (fun e=>hjk e.symm) e ht]
 refine ⟨tr.inv,fun t g v hl hg=>?_,(fun i hi=>by unfold mv;rw [h.low i hi];rfl),(fun i hi hS=>by
  rcases inA hS with rfl|⟨-,hS⟩
  ·exact hbk
  ·exact h.nobar i hi hS),fun t x hn he=>?_,fun i q t hci hi hq hd hg=>?_,fun i q hi hq b hy=>?_,fun i q e hi hq he hbi=>?_,fun i hi=>?_,by rw [sl];exact h.size,by rw [put_defers];exact h.defers⟩
 ·obtain ⟨i,q,g1,g2,rfl,g4⟩:=hold t g v hl
  rw [iP (fun e=>of.fit.apart k i o q t ho g2 (by omega) e g4)];exact tr.rep _ _ (h.old t _ v hl ((gon g2 (.inr (h.low i g1))).1 hg))
 ·rw [iP (hn k o vy ho)]
  refine tr.rep _ _ (h.env t x (fun i q hi hq=>hn i q ?_ hq) he);unfold mv;rw [hi];rfl
 ·rcases inA hi with rfl|⟨hne,hS⟩
  ·rw [ho]at hq;injection hq with hq;subst hq
   have hlt:t<a.tmps.size:=Nat.lt_of_lt_of_le (of.fit.lt i o t ho hd) h.size;rw [hd,sk hlt];exact hv ((gon ho (.inl rfl)).1 hg)
  ·rw [iP (fun e=>of.fit.apart k i o q t ho hq (fun e=>hne e.symm) e hd)]
   exact tr.rep _ _ (h.val i q t hci hS hq hd ((gon hq (.inr hS)).1 hg))
 ·rcases inA hi with rfl|⟨hne,hS⟩
  ·rw [ho]at hq;injection hq with hq;subst hq
   rw [gon ho (.inl rfl)];refine Classical.byContradiction fun hng=>?_;have hu:=hb hng;subst hu;unfold yielded at hy;rw [ho]at hy;simp only [Option.bind_some]at hy;cases hd:o.dst with
   |none=>rw [hd]at hy;cases hy
   |some d=>
    rw [hd]at hy;simp only [Option.bind_some]at hy;have hlt:d<a.tmps.size:=Nat.lt_of_lt_of_le (of.fit.lt _ o d ho hd) h.size;replace hy:(match(a.tmps.setIfInBounds d undef)[d]?with |some (.bool b)=>some b|_=>none)=some b:=hy
    rw [Array.getElem?_setIfInBounds,if_pos rfl,if_pos hlt]at hy;cases hy
  ·rw [jf (o:=o) fun q' t hq' ht e=>of.fit.apart k i o q' t ho hq' (fun e=>hne e.symm) e ht]at hy
   exact (gon hq (.inr hS)).2 (h.chain i q hS hq b hy)
 ·rcases inA hi with rfl|⟨hne,hS⟩
  ·rw [ho]at hq;injection hq with hq;subst hq
   have:=hok e he hbi;unfold mv;rw [this];rfl
  ·have:=h.down i q e hS hq he hbi
   unfold mv;rw [this];rfl
 ·rcases inA hi with rfl|⟨hne,hS⟩
  ·exact (Array.getElem?_eq_some_iff.1 ho).1
  ·exact h.inb i hS
theorem fX.all(h:fX cx G ops N c s vl S a w)(tc:Jd P X T ops.toList (bH ops.toList) s0 st vl)(hs:s=st c)(hck:c<=k)(hkn:k<=ops.size)(hall:∀i,i<k->S i=true)(hno:∀i,S i=true->i<k):cW cx G ops N k (st k) a w:=by
 obtain ⟨l1,l2,l3⟩:=tc.Jy k hck (by simpa using hkn) (fun i h1 h2=>h.nobar i h1 (hall i h2));obtain ⟨l4,l5⟩:=tc.far k (by simpa using hkn);refine ⟨by rw [l2,<-hs];exact h.inv,fun t x hl he=>?_,fun t g v hl=>?_,fun i o hi ho=>h.chain i o (hall i hi) ho,h.size,h.defers⟩
 ·rw [l1,<-hs]at he
  exact h.env t x (fun i o hS ho hd=>l5 t hl i o (hno i hS) (by rw [Array.getElem?_toList];exact ho) hd) he
 ·obtain ⟨i,o,g1,g2,g3,g4⟩:=l4 t g v hl
  rw [Array.getElem?_toList]at g2;refine ⟨fun hg=>?_,i,o,g1,g2,g3,g4⟩;rcases l3 t g v hl with⟨i,o,g0,g1,g2,rfl,g4,rfl⟩|hl
  ·rw [Array.getElem?_toList]at g2
   exact h.val i o t g0 (hall i g1) g2 g4 hg
  ·exact h.old t g v (by rw [hs];exact hl) hg
theorem fX.start(h:cW cx G ops N c (st c) a w)(tc:Jd P X T ops.toList (bH ops.toList) s0 st vl)(of:kz ops N)(hcn:c<=ops.size)(hS:∀i,S i=true↔i<c):fX cx G ops N c (st c) vl S a w:=
 ⟨h.inv,fun t g v hl hg=>(h.loc t g v hl).1 hg,fun i hi=>(hS i).2 hi,fun i hi hs=>by have:=(hS i).1 hs;omega,fun t x hn he=>by
   cases hl:cP t (st c).loc with
   |none=>exact h.env t x hl he
   |some p=>
    obtain ⟨g,v⟩:=p;obtain ⟨-,i,o,h1,h2,-,h4⟩:=h.loc t g v hl;exact absurd h4 (hn i o ((hS i).2 h1) h2),
   fun i o t hi hs=>by have:=(hS i).1 hs;omega,fun i o hs ho=>h.chain i o ((hS i).1 hs) ho,fun i o e hs ho he hb=>(hS _).2 (by have:=of.opn.dn i o e (by rw [Array.getElem?_toList];exact ho) he hb;have:=(hS i).1 hs;omega),fun i hs=>by have:=(hS i).1 hs;omega,h.size,h.defers⟩
theorem xw {ops:List Oper}{bf:List Nat}{i:Nat}(h:kH ops bf i=true):(∀j,j<ops.length->j<i->cZ (bf.getD i 0) j=true)/\∀j,j<ops.length->i<j->cZ (bf.getD j 0) i=true:=by
 unfold kH at h;refine ⟨fun j hj hji=>?_,fun j hj hij=>?_⟩
 ·have:=List.all_eq_true.1 h j (List.mem_range.2 hj)
  rw [Bool.or_eq_true]at this;rcases this with h1|h1
  ·have:=Nat.eq_of_beq_eq_true h1;omega
  ·rw [show Nat.blt j i=true by simpa using hji]at h1;exact h1
 ·have:=List.all_eq_true.1 h j (List.mem_range.2 hj)
  rw [Bool.or_eq_true]at this;rcases this with h1|h1
  ·have:=Nat.eq_of_beq_eq_true h1;omega
  ·rw [show Nat.blt j i=false by rw [Bool.eq_false_iff];intro hh;have:j<i:=by simpa using hh
                                 omega]at h1;exact h1
theorem CJ {listed:Array Bool}(hsz:listed.size=ops.size){i:Nat}(h:i∈Region.ready .any ops listed):i<listed.size/\ry listed i=false/\∃o,ops[i]?=some o/\∀e∈o.after,Region.binds .any e=true->ry listed e.on=true:=by
 obtain ⟨h1,o,h2,h3⟩:=mem_ready.1 h;have hlt:i<listed.size:=by rw [hsz];exact (Array.getElem?_eq_some_iff.1 h2).1
 refine ⟨hlt,?_,o,h2,h3⟩;simp [Array.getD,hlt]at h1⊢;exact h1
theorem OY(of:kz ops N){listed:Array Bool}(hsz:listed.size=ops.size)(h:Region.ready .any ops listed=[]):∀j,j<ops.size->ry listed j=true:=by
 intro j
 induction j using Nat.strongRecOn with
 |_ j ih=>
  intro hj;cases hs:ry listed j with
  |true=>rfl
  |false=>
   obtain ⟨o,ho⟩:∃o,ops[j]?=some o:=⟨_,Array.getElem?_eq_getElem hj⟩;have:j∈Region.ready .any ops listed:=by
    refine mem_ready.2 ⟨?_,o,ho,fun e he hb=>?_⟩
    ·have hlt:j<listed.size:=by omega
     simp [ry,Array.getD,hlt]at hs⊢;exact hs
    ·have:=of.opn.dn j o e (by rw [Array.getElem?_toList];exact ho) he hb
     exact ih e.on this (by omega)
   rw [h]at this;cases this
theorem Jz(hX:df P T X)(hm:cx.m<=32)(hT:jb T cx)(hr:fU ops N){s:VS}(h:cW cx G ops N k s a w){o:Oper}(ho:ops[k]?=some o){v:PV}{f:Option (PV->PV)}{lh:List (Nat×PV)}(hb:Of P X T ops.toList o s v f lh){Q:Exit->Act->World->Prop}{K:Act->World->Prop}
 (hK:∀G' w' u,cW cx G' ops N (k+1) (cQ o v (s.turn f lh)) (a.put o.dst u) w'->K (a.put o.dst u) w'):wpOp P ops Q k K a w:=by
 unfold wpOp;rw [ho];dsimp only;by_cases hg:aQ ops a.tmps o.guard
 ·rw [if_pos ((eP ops a.tmps o).2 hg)]
  left;have hI:(ja P X T o (bu ops.toList o s) s.lh).Is v f s.lh lh:=by
   rcases hb with⟨-,h1⟩|⟨rfl,rfl,h1|⟨p,h1,h2⟩⟩
   ·exact h1
   ·rw [h1];exact ⟨rfl,rfl,rfl⟩
   ·rw [h1]
    refine ⟨?_,rfl,rfl,rfl⟩;cases hgd:o.guard with
    |none=>rw [hgd]at h2;exact h2
    |some g=>
     rw [hgd]at h2 hg;exact oY h hr 9 (some g) p h2 (by rw [<-hgd];exact hr.guard k o ho) hg
  exact h.does hX hm hT hr ho hg hI _ _ fun G' w' u tr hv=>hK G' w' u (h.push hr ho tr (fun _=>hv) (fun hng=>absurd hg hng))
 ·rw [if_neg (by rw [eP];exact hg)]
  rcases hb with⟨h1,-⟩|⟨rfl,rfl,-⟩
  ·rw [h1]at hg;exact absurd trivial hg
  ·exact hK G w undef (h.push hr ho (.refl h.inv) (fun h=>absurd h hg) (fun _=>rfl))
theorem fX.any(hX:df P T X)(hm:cx.m<=32)(hT:jb T cx)(of:kz ops N)(tc:Jd P X T ops.toList (bH ops.toList) s0 st vl){Q:Exit->Act->World->Prop}(hQ:∀G a w,cW cx G ops N ops.size (st ops.size) a w->Q .normal a w):
 ∀(fuel c:Nat) (listed:Array Bool) (G:Gh) (a:Act) (w:World),c<=ops.size->listed.size=ops.size->nG (ry listed) ops.size<=fuel->fX cx G ops N c (st c) vl (ry listed) a w->wpAny P .any ops Q fuel listed a w
 |0,c,listed,G,a,w,hcn,hsz,hc,iv=>by
  have hall:=o4 (show nG (ry listed) ops.size=0 by omega);refine ⟨?_,hQ G a w (iv.all tc rfl hcn (Nat.le_refl _) hall iv.inb)⟩;cases hr:Region.ready .any ops listed with
  |nil=>rfl
  |cons i rs=>
   obtain ⟨h1,h2,-⟩:=CJ hsz (show i∈Region.ready .any ops listed by rw [hr];exact List.mem_cons_self ..);have:=hall i (by omega);rw [h2]at this;cases this
 |fuel+1,c,listed,G,a,w,hcn,hsz,hc,iv=>by
  refine ⟨fun h=>hQ G a w (iv.all tc rfl hcn (Nat.le_refl _) (OY of hsz h) iv.inb),fun i hi=>?_⟩;obtain ⟨h1,hno,o,ho,hok⟩:=CJ hsz hi;have hin:i<ops.size:=by omega
  have next:∀c' G' w' u,c'<=ops.size->fX cx G' ops N c' (st c') vl (mv (ry listed) i) (a.put o.dst u) w'->wpAny P .any ops Q fuel (listed.setIfInBounds i true) (a.put o.dst u) w':=fun c' G' w' u hc' iv'=>by
   rw [<-xr h1]at iv';refine fX.any hX hm hT of tc hQ fuel c' _ G' _ w' hc' (by simpa using hsz) ?_ iv';rw [xr h1];have:=sn hno ops.size;rw [if_pos (by omega)]at this;omega
  have hci:c<=i:=by
   refine Classical.byContradiction fun h=>?_;have:=iv.low i (by omega);rw [hno]at this;cases this
  obtain ⟨f,lh,hL⟩:=tc.step i o (by rw [Array.getElem?_toList];exact ho);have hnb:∀b,c<=b->b<i->kH ops.toList (bH ops.toList) b=false:=fun b h2 h3=>by
   cases hbb:kH ops.toList (bH ops.toList) b with
   |false=>rfl
   |true=>
    have hm:=(xw hbb).2 i (by simpa using hin) h3;have:=iv.nobar b h2 (of.below iv.down i o b ho hok hm);rw [hbb]at this;cases this
  rcases hL with⟨hb,e,hB⟩|⟨hb,e,hst⟩
  ·have low:∀j,j<i->ry listed j=true:=fun j hj=>of.below iv.down i o j ho hok ((xw hb).1 j (by simp;omega) hj)
   have up:∀j,ry listed j=true->j<i:=fun j hj=>by
    refine Classical.byContradiction fun h=>?_;by_cases hji:j=i
    ·rw [hji,hno]at hj;cases hj
    ·have hjn:=iv.inb j hj
     obtain ⟨q,hq⟩:∃q,ops[j]?=some q:=⟨_,Array.getElem?_eq_getElem hjn⟩;have hm:=(xw hb).2 j (by simpa using hjn) (by omega);have:=of.below iv.down j q i hq (fun e he hbi=>iv.down j q e hj hq he hbi) hm;rw [hno]at this;cases this
   have hl:=iv.all (k:=i) tc rfl hci (by omega) low up;refine Jz hX hm hT of.fit hl ho hB fun G' w' u hl'=>next (i+1) G' w' u (by omega) ?_
   rw [<-e]at hl';refine fX.start hl' tc of (by omega) fun j=>?_;unfold mv;rw [Bool.or_eq_true,decide_eq_true_iff];exact ⟨fun h=>h.elim (fun h=>by have:=up j h;omega) (fun h=>by omega),fun h=>by
    by_cases hj:j=i
    ·exact .inr hj
    ·exact .inl (low j (by omega))⟩
  ·have hold:∀t g v,cP t (st c).loc=some (g,v)->∃i q,i<c/\ops[i]?=some q/\q.guard=g/\q.dst=some t:=fun t g v hl=>by
    obtain ⟨i,q,g1,g2,g3,g4⟩:=(tc.far c (by simpa using hcn)).1 t g v hl;rw [Array.getElem?_toList]at g2;exact ⟨i,q,g1,g2,g3,g4⟩
   unfold wpOp;rw [ho];dsimp only;have hlh:(st i).lh=(st c).lh:=(tc.Jy i hci (by simp;omega) hnb).2.1;by_cases hg:aQ ops a.tmps o.guard
   ·rw [if_pos ((eP ops a.tmps o).2 hg)]
    left;have hI:(iJ P X T o (bu ops.toList o (st i)) (st c).lh).Is (vl i) none (st c).lh (st c).lh:=by
     unfold Jx at hst;rw [hlh]at hst;rcases hst with hst|⟨p,hst,hp⟩
     ·rw [hst];exact ⟨rfl,rfl,rfl⟩
     ·rw [hst]
      refine ⟨?_,rfl,rfl,rfl⟩;cases hgd:o.guard with
      |none=>rw [hgd]at hp;exact hp
      |some g=>
       rw [hgd]at hp hg;exact iv.fu of tc rfl hci hnb (by omega) 9 (some g) p hp (fun j b e=>iv.guard of ho hok j b (by rw [hgd];exact e)) hg
    exact iv.does hX hm hT of tc rfl hci hnb ho hno hok hg hI _ _ fun G' w' u tr hv=>next c G' w' u hcn (iv.push of ho hno hok tr (fun _=>hv) (fun hng=>absurd hg hng) hci hb hold)
   ·rw [if_neg (by rw [eP];exact hg)]
    exact next c G w undef hcn (iv.push of ho hno hok (.refl iv.inv) (fun h=>absurd h hg) (fun _=>rfl) hci hb hold)
theorem OZ(hmix:P.follows .mixedOrders=true)(hX:df P T X)(hm:cx.m<=32)(hT:jb T cx)(of:kz ops N){K:VS->Prop}{Q:Exit->Act->World->Prop}(hQ:∀G s a w,cW cx G ops N ops.size s a w->K s->Q .normal a w)(hl:s.loc=[])(h:cW cx G ops N 0 s a w)(he:Gp P X T ops.toList (bH ops.toList) ops.toList 0 s K)(id:Nat):(Code.region id ops true).wp P Q a w:=by
 obtain ⟨st,vl,h1,h2,h3⟩:=vA _ _ _ he;have tc:Jd P X T ops.toList (bH ops.toList) s st vl:=⟨hl,h1,fun j o ho=>by
  obtain ⟨f,lh,hL⟩:=h2 j o ho;rw [Nat.zero_add]at hL;exact ⟨f,lh,hL⟩⟩
 refine wp_region_any hmix ?_;obtain ⟨i1,i2⟩:=h.inv.drew;have hd:cW cx G ops N 0 (st 0) a w.drew:=by
  rw [h1];exact ⟨i1,fun t x g e=>i2 _ _ (h.env t x g e),(fun t g v hlk=>by rw [hl]at hlk;cases hlk),(fun i o hi=>by omega),h.size,h.defers⟩
 have hnone:ry (Array.replicate ops.size false)=fun _=>false:=by
  funext j;unfold ry
  by_cases h:j<ops.size<;>simp [Array.getD,h]
 refine fX.any hX hm hT of tc (fun G a w hr=>hQ G _ a w hr (by simpa using h3)) ops.size 0 (Array.replicate ops.size false) G a w.drew (Nat.zero_le _) (by simp) ?_ ?_
 ·rw [hnone,o5];exact Nat.le_refl _
 ·rw [hnone];exact .start hd tc of (Nat.zero_le _) (fun i=>by simp)
end
end
section
def Qz:Op->Bool
 |.load ..|.store ..=>true
 |_=>false
section
variable [Wd] {P:Program} {cx:Cx} {G:Gh} {lh:List (Nat×PV)} {w:World}
end
end
section
def hY(P:Program)(o:Oper)(a:Act)(u:Value):Prop:=∀w,(execOp a.eval o).run P w=.ok (.value u) w
section
variable [Wd] {P:Program} {cx:Cx} {G:Gh} {lh:List (Nat×PV)} {w:World}
theorem hY.quiet {o:Oper}{a:Act}{u:Value}{s:Sem Value}(he:execOp a.eval o=(do Pure.pure (Next.value (<-s))))(hs:∀w',s.run P w'=.ok u w'):hY P o a u:=
 fun w'=>by rw [he,Sem.run_bind,hs];rfl
theorem hY.pure {o:Oper}{a:Act}{u:Value}(he:execOp a.eval o=Pure.pure (Next.value u)):hY P o a u:=
 fun w'=>by rw [he];rfl
set_option maxHeartbeats 1000000 in
theorem zD {X:cM}{T:cO}(hi:Inv cx G lh w){o:Oper}(hq:xe o.op=true){a:Act}{xs:List PV}{v:PV}{f:Option (PV->PV)}{lh':List (Nat×PV)}
 (hx:aw xs G w (o.op.operands.toList.map a.eval))(h:(gO P X T o xs lh).Is v f lh lh'):f=none/\lh'=lh/\∃u,aN v G w u/\hY P o a u:=by
 have hq2:(xe o.op||Qz o.op)=true:=by rw [hq];rfl
 have qt:∀{s:Sem Value},execOp a.eval o=(do Pure.pure (Next.value (<-s)))->fT P s v G w->∃u,aN v G w u/\hY P o a u:=fun he hg=>by
  obtain ⟨u,h1,h2⟩:=hg;exact ⟨u,h2,hY.quiet he h1⟩
 obtain ⟨dst,op,type,pos,after,guard⟩:=o;cases op
 case move x=>
  obtain ⟨x0,rfl,h1⟩:=aw.one (u:=a.eval x) hx;obtain ⟨rfl,rfl,rfl⟩:=h;exact ⟨rfl,rfl,_,eA h1,hY.pure rfl⟩
 case assign x=>
  obtain ⟨x0,rfl,h1⟩:=aw.one (u:=a.eval x) hx;unfold gO at h;dsimp only at h;split at h
  ·rename_i e n hc hd hn
   have:(!nm x)=true:=hq;rw [hc]at this;cases this
  ·obtain ⟨rfl,rfl,rfl⟩:=h
   exact ⟨rfl,rfl,_,h1,hY.pure rfl⟩
 case build t ps=>
  obtain ⟨h1,rfl,rfl⟩:=eN.dx h;have hx':aw xs G w ((ps.toList.map (·.2)).map a.eval):=by simpa [Op.operands]using hx
  refine ⟨rfl,rfl,qt (s:=Instr.build t (ps.map fun(i,x)=>(i,a.eval x))) rfl ?_⟩;rw [oX];exact zq h1 hx'
 case nilCheck x=>
  obtain ⟨x0,rfl,h1⟩:=aw.one (u:=a.eval x) hx;unfold gO at h;dsimp only at h;split at h
  ·rename_i n off he
   injection he with he;subst he
   obtain ⟨rfl,rfl,rfl⟩:=h;obtain ⟨b,h2,h3⟩:=h1;refine ⟨rfl,rfl,a.eval x,⟨b,h2,h3⟩,hY.pure ?_⟩;unfold execOp;dsimp only;rw [h3]
  ·rename_i g p q he
   injection he with he;subst he
   obtain ⟨rfl,rfl,rfl⟩:=h;obtain ⟨us,vs,h2,h3,h4⟩:=h1;refine ⟨rfl,rfl,a.eval x,⟨us,vs,h2,h3,h4⟩,hY.pure ?_⟩;unfold execOp;dsimp only;rw [h4]
  ·exact h.elim
 case binOp op t x y yt=>
  obtain ⟨x0,y0,rfl,h1,h2⟩:=aw.two (u:=a.eval x) (v:=a.eval y) hx;obtain ⟨h3,rfl,rfl⟩:=eN.dx h;exact ⟨rfl,rfl,qt (s:=da op t x y (a.eval x) (a.eval y)) rfl (Jm h3 h1 h2 x y)⟩
 case unOp op t x=>
  obtain ⟨x0,rfl,h1⟩:=aw.one (u:=a.eval x) hx;obtain ⟨h3,rfl,rfl⟩:=eN.dx h;exact ⟨rfl,rfl,qt rfl (Oc h3 h1)⟩
 case slice t x lo hi' mx=>
  cases mx with
  |some m=>cases lo<;>cases hi'<;>exact h.elim
  |none=>
   cases lo with
   |none=>
    cases hi' with
    |none=>
     obtain ⟨x0,rfl,h1⟩:=aw.one (u:=a.eval x) hx;obtain ⟨h3,rfl,rfl⟩:=eN.dx h;exact ⟨rfl,rfl,qt rfl (gQ h3 h1 trivial trivial)⟩
    |some b=>
     obtain ⟨x0,y0,rfl,h1,h2⟩:=aw.two (u:=a.eval x) (v:=a.eval b) hx;obtain ⟨h3,rfl,rfl⟩:=eN.dx h;exact ⟨rfl,rfl,qt rfl (gQ h3 h1 trivial (zz h2))⟩
   |some q=>
    cases hi' with
    |none=>
     obtain ⟨x0,y0,rfl,h1,h2⟩:=aw.two (u:=a.eval x) (v:=a.eval q) hx;obtain ⟨h3,rfl,rfl⟩:=eN.dx h;exact ⟨rfl,rfl,qt rfl (gQ h3 h1 (zz h2) trivial)⟩
    |some b=>
     obtain ⟨x0,y0,z0,rfl,h1,h2,h4⟩:=aw.three (u:=a.eval x) (v:=a.eval q) (q:=a.eval b) hx;obtain ⟨h3,rfl,rfl⟩:=eN.dx h;exact ⟨rfl,rfl,qt rfl (gQ h3 h1 (zz h2) (zz h4))⟩
 case fieldAddr t x f=>
  obtain ⟨x0,rfl,h1⟩:=aw.one (u:=a.eval x) hx;obtain ⟨h3,rfl,rfl⟩:=eN.dx h;exact ⟨rfl,rfl,qt rfl (nu h3 h1)⟩
 case field t x f=>
  obtain ⟨x0,rfl,h1⟩:=aw.one (u:=a.eval x) hx;obtain ⟨h3,rfl,rfl⟩:=eN.dx h;exact ⟨rfl,rfl,qt rfl (zk h3 h1)⟩
 case indexAddr t x y=>
  obtain ⟨x0,y0,rfl,h1,h2⟩:=aw.two (u:=a.eval x) (v:=a.eval y) hx;obtain ⟨h3,rfl,rfl⟩:=eN.dx h;exact ⟨rfl,rfl,qt rfl (nv h3 h1 h2)⟩
 case index t x y=>
  obtain ⟨x0,y0,rfl,h1,h2⟩:=aw.two (u:=a.eval x) (v:=a.eval y) hx;obtain ⟨h3,rfl,rfl⟩:=eN.dx h;exact ⟨rfl,rfl,qt rfl (zl h3 h1 h2)⟩
 case extract x i=>
  obtain ⟨x0,rfl,h1⟩:=aw.one (u:=a.eval x) hx;unfold gO at h;dsimp only at h;split at h
  ·rename_i l he
   injection he with he;subst he
   obtain ⟨h3,rfl,rfl⟩:=eN.dx h;exact ⟨rfl,rfl,qt rfl (rZ h3 h1)⟩
  ·exact h.elim
 case call c=>
  obtain ⟨callee,args,argTypes⟩:=c;cases callee
  case builtin b=>
   cases b
   case len=>
    have hx':aw xs G w (args.toList.map a.eval):=by simpa [Op.operands,Call.operands]using hx
    unfold gO at h;dsimp only at h;cases h0:argTypes[0]?with
    |none=>rw [h0]at h;exact h.elim
    |some t=>
     rw [h0]at h;dsimp only at h;split at h
     ·rename_i x0
      obtain ⟨h3,rfl,rfl⟩:=eN.dx h;obtain ⟨u,us,hl,h1,h2⟩:=hx';obtain rfl:us=[]:=h2;obtain ⟨q,g1,g2⟩:=Jn (ty:=type) h0 h3 (eA (P:=P) (t:=t) (tok:=0) h1);refine ⟨rfl,rfl,q,g2,hY.quiet (s:=Builtin.len_ argTypes type #[u]) ?_ g1⟩;show(do let d<-resolve a.eval ⟨.builtin .len,args,argTypes⟩ type;invoke d.target d.args)=_
      unfold resolve;dsimp only;have:args.map a.eval=#[u]:=by apply Array.ext';simpa using hl
      rw [this];rfl
     ·exact h.elim
   all_goals (cases hq)
  all_goals (cases hq)
 all_goals (cases hq)
variable {ops:Array Oper} {N k:Nat} {s:VS} {a:Act} {X:cM} {T:cO}
theorem zE {l:List Oper}{i:Nat}{K:VS->Prop}(h:EL P X T l i s K):∃o v f lh',l[i]?=some o/\(ja P X T o (bu l o s) s.lh).Is v f s.lh lh'/\K (cQ o v (s.turn f lh')):=by
 unfold EL at h;split at h
 ·exact h.elim
 ·rename_i o ho
  refine ⟨o,?_⟩;split at h
  ·rename_i v hv
   rw [bJ]at h;exact ⟨v,none,s.lh,ho,by rw [hv];exact ⟨rfl,rfl,rfl⟩,h⟩
  ·rename_i p v hv
   rw [bJ]at h;exact ⟨v,none,s.lh,ho,by rw [hv];exact ⟨h.1,rfl,rfl,rfl⟩,h.2⟩
  ·rename_i v f lh' hv
   rw [bJ]at h;exact ⟨v,f,lh',ho,by rw [hv];exact ⟨rfl,rfl,rfl⟩,h⟩
  ·rename_i p v f lh' hv
   rw [bJ]at h;exact ⟨v,f,lh',ho,by rw [hv];exact ⟨h.1,rfl,rfl,rfl⟩,h.2⟩
  ·exact h.elim
theorem zF:∀{l:List Nat} {F:Nat->Prop},OK l F->∀i∈l,F i
 |[],F,h,i,hi=>by cases hi
 |[j],F,h,i,hi=>by
  rcases List.mem_cons.1 hi with rfl|hi
  ·exact h
  ·cases hi
 |j::q::l,F,h,i,hi=>by
  rcases List.mem_cons.1 hi with rfl|hi
  ·exact h.1
  ·exact zF (l:=q::l) h.2 i hi
theorem fk {l:List Oper}(h:jC l=true){i:Nat}{o:Oper}(ho:l[i]?=some o):o.guard=none/\(∀c x y,o.op≠.pick c x y)/\∀cs b,o.op≠.select cs b:=by
 have:=List.all_eq_true.1 h o (List.mem_of_getElem? ho);rw [Bool.and_eq_true]at this;obtain ⟨h1,h2⟩:=this;refine ⟨?_,fun c x y e=>?_,fun cs b e=>?_⟩
 ·cases hg:o.guard with
  |none=>rfl
  |some g=>rw [hg]at h1;cases h1
 ·rw [e]at h2;cases h2
 ·rw [e]at h2;cases h2
theorem O0(ops:Array Oper)(listed:Array Bool):OJ ops.toList listed.toList=Region.ready .any ops listed:=by
 have e1:∀(i:Nat) (d:Bool),listed.toList.getD i d=listed.getD i d:=fun i d=>by simp [List.getD_eq_getElem?_getD,Array.getD_eq_getD_getElem?]
 unfold OJ Region.ready;rw [Array.length_toList];congr 1
 funext i
 rw [Array.getElem?_toList,e1];cases ops[i]?with
 |none=>rfl
 |some o=>
  simp only [e1,Option.map_some,Option.getD_some,Array.all_toList]
theorem cW.Og(h:cW cx G ops N ops.size s a w)(hr:fU ops N)(hgl:jC ops.toList=true){i:Nat}{o:Oper}(ho:ops[i]?=some o){f:Option (PV->PV)}{lh':List (Nat×PV)}{G':Gh}{w':World}(tr:dI cx G w f lh' G' w'){v:PV}{u:Value}
 (hv:aN v G' w' u):cW cx G' ops N ops.size (cQ o v (s.turn f lh')) (a.put o.dst u) w':=by
 have gl:∀{i:Nat} {q:Oper},ops[i]?=some q->q.guard=none:=fun hq=>(fk hgl (by rw [Array.getElem?_toList];exact hq)).1;refine ⟨by rw [jM.2,xq];exact tr.inv,fun t x hl he=>?_,fun t g x hl=>?_,fun i q hi hq b hy=>by rw [gl hq];trivial,by rw [sl];exact h.size,by rw [put_defers];exact h.defers⟩
 ·rw [fw]at hl
  split at hl
  ·cases hl
  ·rename_i hd
   rw [gx]at hl;rw [jM.1,jr]at he;rw [Option.map_eq_some_iff]at he;obtain ⟨y,hy,rfl⟩:=he;rw [iP hd];exact tr.rep _ _ (h.env t y (by simpa using hl) hy)
 ·rw [fw]at hl
  split at hl
  ·rename_i hd
   injection hl with hl;injection hl with h1 h2;subst h1;subst h2
   have hlt:t<a.tmps.size:=Nat.lt_of_lt_of_le (hr.lt i o t ho hd) h.size;refine ⟨fun hg=>?_,i,o,(Array.getElem?_eq_some_iff.1 ho).1,ho,rfl,hd⟩;rw [hd,sk hlt];exact hv
  ·rename_i hd
   rw [gx,Option.map_eq_some_iff]at hl;obtain ⟨⟨g',y⟩,hy,e⟩:=hl;injection e with e1 e2;subst e1;subst e2
   obtain ⟨h1,j,q,hi,hq,hg1,hd1⟩:=h.loc t g' y hy;refine ⟨fun hg=>?_,j,q,hi,hq,hg1,hd1⟩;rw [iP hd];refine tr.rep _ _ (h1 ?_);rw [<-hg1,gl hq];trivial
theorem CK {i:Nat}{oi:Oper}{listed:Array Bool}(ho:ops[i]?=some oi)(h:Cy ops.toList listed.toList i=true):xe oi.op=true/\∀j oj,ops[j]?=some oj->j≠i->listed.getD j true=false->(∀e∈oj.after,Region.binds .any e=true->e.on≠i)->oi.apart ops oj=true:=by
 unfold Cy at h;rw [Array.getElem?_toList,ho]at h;dsimp only at h;rw [Bool.and_eq_true]at h;refine ⟨h.1,fun j oj hj hne hl haf=>?_⟩;have:=List.all_eq_true.1 h.2 j (List.mem_range.2 (by rw [Array.length_toList];exact (Array.getElem?_eq_some_iff.1 hj).1));have e1:listed.toList.getD j true=listed.getD j true:=by simp [List.getD_eq_getElem?_getD,Array.getD_eq_getD_getElem?]
 have e0:Nat.beq j i=false:=by cases e:Nat.beq j i with |false=>rfl|true=>exact absurd (Nat.eq_of_beq_eq_true e) hne
 rw [e0,e1,hl,Array.getElem?_toList,hj,Bool.false_or,Bool.false_or]at this;dsimp only at this;rw [Bool.or_eq_true]at this;rcases this with this|this
 ·obtain ⟨e,he,h2⟩:=List.any_eq_true.1 this
  rw [Bool.and_eq_true]at h2;exact absurd (Nat.eq_of_beq_eq_true h2.2) (haf e (by simpa using he) h2.1)
 ·simpa using this
theorem xx(hX:df P T X)(hm:cx.m<=32)(hT:jb T cx)(hr:fU ops N)(hgl:jC ops.toList=true){K:VS->Prop}{Q:Exit->Act->World->Prop}(hP:∀c a w,¬Q (.panic c) a w)(hQ:∀G s a w,cW cx G ops N ops.size s a w->K s->Q .normal a w):
 ∀(n fuel:Nat) (listed:Array Bool) (s:VS) (G:Gh) (a:Act) (w:World),listed.size=ops.size->nG (ry listed) ops.size<=fuel->cW cx G ops N ops.size s a w->PQ P X T ops.toList n listed.toList s K->wpAny P .any ops Q fuel listed a w
 |0,_,_,_,_,_,_,_,_,_,he=>he.elim
 |n+1,fuel,listed,s,G,a,w,hsz,hc,hl,he=>by
  unfold PQ at he;rw [O0]at he;have one:∀i∈Region.ready .any ops listed,i<ops.size/\ry listed i=false/\∃o,ops[i]?=some o:=fun i hi=>by
   obtain ⟨h1,h2,o,h3,-⟩:=CJ hsz hi;exact ⟨by omega,h2,o,h3⟩
  have less:∀f i,i<ops.size->ry listed i=false->nG (ry listed) ops.size<=f+1->nG (ry (listed.setIfInBounds i true)) ops.size<=f:=fun f i hi hno hf=>by
   rw [xr (by omega)];have:=sn hno ops.size;rw [if_pos hi]at this;omega
  have tl:∀i,(listed.setIfInBounds i true).toList=listed.toList.set i true:=fun i=>by simp
  split at he
  ·rename_i hnil
   cases fuel with
   |zero=>exact ⟨hnil,hQ G s a w hl he⟩
   |succ fuel=>exact ⟨fun _=>hQ G s a w hl he,fun i hi=>by rw [hnil]at hi;cases hi⟩
  ·rename_i hne
   cases fuel with
   |zero=>
    exfalso;cases hrd:Region.ready .any ops listed with
    |nil=>exact hne hrd
    |cons i rs=>
     obtain ⟨h1,h2,-⟩:=one i (by rw [hrd];exact List.mem_cons_self ..);have:=o4 (show nG (ry listed) ops.size=0 by omega) i h1;rw [h2]at this;cases this
   |succ fuel=>
    split at he
    ·rename_i i hf
     have hi:=List.mem_of_find?_eq_some hf;have hb:=List.find?_some hf;obtain ⟨h1,h2,-⟩:=one i hi;obtain ⟨o,v,f,lh',ho,hI,hK⟩:=zE he;rw [Array.getElem?_toList]at ho;obtain ⟨hq,hfree⟩:=CK ho hb;obtain ⟨g0,gp,gs⟩:=fk hgl (i:=i) (o:=o) (by rw [Array.getElem?_toList];exact ho);have hx:aw (bu ops.toList o s) G w (o.op.operands.toList.map a.eval):=by
      have:bu ops.toList o s=o.op.operands.toList.map (bD ops.toList o.guard s):=by
       unfold bu;split
       ·rename_i c x y e
        exact absurd e (gp c x y)
       ·rfl
      rw [this];exact hl.operands hr (fun j b e=>by rw [g0]at e;cases e) (by rw [g0];trivial) _
     obtain ⟨rfl,rfl,u,hv,hy⟩:=zD hl.inv hq hx (rv hI);have hl':=hl.Og hr hgl ho (dI.refl hl.inv) hv;refine wpAny_first (oi:=o) (v:=u) ho (fun j q cs b hj=>(fk hgl (i:=j) (o:=q) (by rw [Array.getElem?_toList];exact hj)).2.2 cs b) (fun c a w h=>absurd h (hP c _ w)) fuel listed a w hfree hi (.inl ⟨by unfold Region.wanted;rw [g0],hy⟩) ?_;exact xx hX hm hT hr hgl hP hQ n fuel _ _ _ _ _ (by simpa using hsz) (less fuel i h1 h2 hc) hl' (by rw [tl];exact hK)
    ·refine ⟨fun hnil=>absurd hnil hne,fun i hi=>?_⟩
     obtain ⟨h1,h2,-⟩:=one i hi;obtain ⟨o,v,f,lh',ho,hI,hK⟩:=zE (zF he i hi);rw [Array.getElem?_toList]at ho;obtain ⟨g0,gp,gs⟩:=fk hgl (i:=i) (o:=o) (by rw [Array.getElem?_toList];exact ho);have hx:aw (bu ops.toList o s) G w (o.op.operands.toList.map a.eval):=by
      have:bu ops.toList o s=o.op.operands.toList.map (bD ops.toList o.guard s):=by
       unfold bu;split
       ·rename_i c x y e
        exact absurd e (gp c x y)
       ·rfl
      rw [this];exact hl.operands hr (fun j b e=>by rw [g0]at e;cases e) (by rw [g0];trivial) _
     unfold wpOp;rw [ho];dsimp only;rw [if_pos (by unfold Region.wanted;rw [g0])];left;exact xp hX hl.inv hm hT gp hx hI _ _ fun G' w' u tr hv=>xx hX hm hT hr hgl hP hQ n fuel _ _ _ _ _ (by simpa using hsz) (less fuel i h1 h2 hc) (hl.Og hr hgl ho tr hv) (by rw [tl];exact hK)
theorem O1(hmix:P.follows .mixedOrders=true)(hX:df P T X)(hm:cx.m<=32)(hT:jb T cx)(of:kz ops N)(hgl:jC ops.toList=true){K:VS->Prop}{Q:Exit->Act->World->Prop}(hQ:∀G s a w,cW cx G ops N ops.size s a w->K s->Q .normal a w)(hl:s.loc=[])(h:cW cx G ops N 0 s a w){n:Nat}(he:PQ P X T ops.toList n (ops.toList.map fun _=>false) s K)(id:Nat):(Code.region id ops true).wp P Q a w:=by
 refine Code.wp_mono (Q:=fun e a w=>match e with |.panic _=>False|e=>Q e a w) (fun e a w hq=>by cases e<;>first|exact hq|exact hq.elim) ?_
 refine wp_region_any hmix ?_;obtain ⟨i1,i2⟩:=h.inv.drew;have hd:cW cx G ops N ops.size s a w.drew:=
  ⟨i1,fun t x g e=>i2 _ _ (h.env t x g e),(fun t g v hlk=>by rw [hl]at hlk;cases hlk),(fun i o hi ho b hy=>by rw [(fk hgl (i:=i) (o:=o) (by rw [Array.getElem?_toList];exact ho)).1];trivial),h.size,h.defers⟩
 have hnone:ry (Array.replicate ops.size false)=fun _=>false:=by
  funext j;unfold ry
  by_cases h:j<ops.size<;>simp [Array.getD,h]
 have hlist:(Array.replicate ops.size false).toList=ops.toList.map fun _=>false:=by
  rw [Array.toList_replicate,List.map_const',Array.length_toList]
 refine xx (Q:=fun e a w=>match e with |.panic _=>False|e=>Q e a w) hX hm hT of.fit hgl (fun c a w h=>h) (fun G s a w hr hk=>hQ G s a w hr hk) n ops.size _ s G a w.drew Array.size_replicate ?_ hd (by rw [hlist];exact he)
 rw [hnone,o5];exact Nat.le_refl _
theorem JA(hmix:P.follows .mixedOrders=true)(hX:df P T X)(hm:cx.m<=32)(hT:jb T cx)(of:kz ops N){K:VS->Prop}{Q:Exit->Act->World->Prop}(hQ:∀G s a w,cW cx G ops N ops.size s a w->K s->Q .normal a w)(hl:s.loc=[])(h:cW cx G ops N 0 s a w)(he:PR P X T ops.toList (bH ops.toList) s K)(id:Nat):(Code.region id ops true).wp P Q a w:=by
 unfold PR at he;split at he
 ·rename_i hn
  unfold Oa at hn;rw [Bool.and_eq_true]at hn;exact O1 hmix hX hm hT of hn.1 hQ hl h he id
 ·exact OZ hmix hX hm hT of hQ hl h he id
end
end
section
variable [Wd] {P:Program} {cx:Cx} {G:Gh} {w:World}
structure fA(cx:Cx)(G:Gh)(N:Nat)(s:VS)(a:Act)(w:World):Prop where
 inv:Inv cx G s.lh w
 env:∀t x,b6 t s.env=some x->aN x G w (a.tmps.getD t undef)
 loc:s.loc=[]
 size:N<=a.tmps.size
 defers:a.defers=[]
def P7:Ex->Exit
 |.normal=>.normal
 |.exit id=>.exit id
 |.goto l=>.goto l
 |.ret=>.ret
def Wp(P:Program)(items:List Item)(Q:Exit->Act->World->Prop)(a:Act)(w:World):Prop:=
 ∀(b:Frame) (k:List Item) (cs:List Frame),∃e a' w',Q e a' w'/\Arrives P (lone (b.at a (items++k)) cs w) b k cs e a' w'
theorem Wp.step {items items':List Item}{Q:Exit->Act->World->Prop}{a:Act}{w:World}(hs:∀(b:Frame) (k:List Item) (cs:List Frame),Go.step P (lone (b.at a (items++k)) cs w)=.next (lone (b.at a (items'++k)) cs w))(h:Wp P items' Q a w):Wp P items Q a w:=by
 intro b k cs;obtain ⟨e,a',w',hq,har⟩:=h b k cs;exact ⟨e,a',w',hq,.of_steps (.one (hs b k cs)) har⟩
theorem Wp.then {c:Code}{x:Item}(hx:x.plain=true){Q:Exit->Act->World->Prop}{a:Act}{w:World}(h:c.wp P (fun e a' w'=>match e with |.normal=>Wp P [x] Q a' w'|e=>Q e a' w') a w):Wp P [.code c,x] Q a w:=by
 intro b k cs;obtain ⟨e,a1,w1,hq,har⟩:=h b (x::k) cs;cases e with
 |normal=>
  obtain ⟨e2,a2,w2,hq2,har2⟩:=hq b k cs;exact ⟨e2,a2,w2,hq2,.of_steps har har2⟩
 |exit id=>exact ⟨_,a1,w1,hq,.pass (x:=x) hx (fun _ _=>.inl (by simp)) har⟩
 |goto l=>exact ⟨_,a1,w1,hq,.pass (x:=x) hx (fun _ _=>.inl (by simp)) har⟩
 |ret=>exact ⟨_,a1,w1,hq,.pass (x:=x) hx (fun _ _=>.inl (by simp)) har⟩
 |panic ch=>exact ⟨_,a1,w1,hq,.pass (x:=x) hx (fun _ _=>.inl (by simp)) har⟩
 |outgrown=>exact ⟨_,a1,w1,hq,.pass (x:=x) hx (fun _ _=>.inl (by simp)) har⟩
theorem Wp.scope {c c0:Code}{Q:Exit->Act->World->Prop}{a:Act}{w:World}(h:c0.wp P (fun e a' w'=>match e with
 |.goto l=>(∃rest,findLabel c l=some rest/\Wp P [.code rest,.inScope c] Q a' w')\/(findLabel c l=none/\Q (.goto l) a' w')
 |e=>Q e a' w') a w):Wp P [.code c0,.inScope c] Q a w:=by
 intro b k cs;obtain ⟨e,a1,w1,hq,har⟩:=h b (.inScope c::k) cs;cases e with
 |normal=>exact ⟨.normal,a1,w1,hq,Steps.trans har (.one step_inScope)⟩
 |exit id=>exact ⟨.exit id,a1,w1,hq,fun k' hk=>har k' (by simp [exitTo,hk])⟩
 |goto l=>
  rcases hq with⟨rest,hf,h2⟩|⟨hf,hq⟩
  ·obtain ⟨e2,a2,w2,hq2,har2⟩:=h2 b k cs
   exact ⟨e2,a2,w2,hq2,.of_steps (har _ (by simp [gotoIn,hf])) har2⟩
  ·exact ⟨.goto l,a1,w1,hq,fun k' hk=>har k' (by simp [gotoIn,hf,hk])⟩
 |ret=>exact ⟨_,a1,w1,hq,har⟩
 |panic ch=>exact ⟨_,a1,w1,hq,har⟩
 |outgrown=>exact ⟨_,a1,w1,hq,har⟩
theorem GH(t:Nat)(s:VS):b6 t (jE s).env=(b6 t s.env).map fun x=>match cP t s.loc with |some (none,v)=>v|some (some _,_)=>.undef|none=>x:=by
 unfold jE;dsimp only
 induction s.env with
 |nil=>rfl
 |cons e l ih=>
  show(bif Nat.beq e.1 t then some _ else b6 t (l.map _))=(bif Nat.beq e.1 t then some e.2 else b6 t l).map _
  cases hb:Nat.beq e.1 t with
  |true=>
   have:=Nat.eq_of_beq_eq_true hb;subst this;rfl
  |false=>exact ih
theorem fA.begin {N:Nat}{s:VS}{a:Act}(h:fA cx G N s a w)(ops:Array Oper):cW cx G ops N 0 s a w:=
 ⟨h.inv,fun t x _ hx=>h.env t x hx,(fun t g v hl=>by rw [h.loc]at hl;cases hl),(fun i o hi=>by omega),h.size,h.defers⟩
theorem cW.finish {N k:Nat}{ops:Array Oper}{s:VS}{a:Act}(h:cW cx G ops N k s a w):fA cx G N (jE s) a w:=by
 refine ⟨h.inv,fun t x hx=>?_,rfl,h.size,h.defers⟩;rw [GH,Option.map_eq_some_iff]at hx;obtain ⟨y,hy,e⟩:=hx;cases hl:cP t s.loc with
 |none=>
  rw [hl]at e;rw [<-show y=x from e];exact h.env t y hl hy
 |some p=>
  obtain ⟨g,v⟩:=p;rw [hl]at e;cases g with
  |none=>
   rw [<-show v=x from e];exact (h.loc t none v hl).1 trivial
  |some q=>
   rw [<-show PV.undef=x from e];trivial
theorem JB {N:Nat}{s:VS}{a:Act}(h:fA cx G N s a w){c:Operand}{t:Bool}(hc:bD [] none s c=.bool t):a.eval c=.bool t:=by
 cases c with
 |tmp i=>
  unfold bD at hc;dsimp only at hc;rw [h.loc]at hc;replace hc:(b6 i s.env).getD .undef=.bool t:=hc;cases he:b6 i s.env with
  |none=>rw [he]at hc;cases hc
  |some x=>
   rw [he]at hc;have:x=.bool t:=hc;subst this;exact h.env i _ he
 |const v=>
  replace hc:ofValue v=.bool t:=hc;unfold ofValue at hc;split at hc<;>first|(cases hc;done)|(injection hc with hc;subst hc;rfl)
 |global g=>cases hc
 |func f=>cases hc
theorem fA.put {N:Nat}{a:Act}{s:VS}(h:fA cx G N s a w)(n:Nat)(y:PV)(hy:∀x,b6 n s.env=some x->∀v,aN x G w v->aN y G w v):fA cx G N (s.put n y) a w:=by
 refine ⟨h.inv,fun t x hx=>?_,h.loc,h.size,h.defers⟩;replace hx:b6 t (iI n y s.env)=some x:=hx;rw [kK]at hx;split at hx
 ·rename_i e
  rw [Option.map_eq_some_iff]at hx;obtain ⟨z,hz,e2⟩:=hx;subst e2;subst e;exact hy z hz _ (h.env _ z hz)
 ·exact h.env t x hx
theorem JC {m:Nat}{x:PV}{v:Value}{G:Gh}{w:World}(h:aN x G w v):aN (ON m x) G w v:=by
 unfold ON;split
 ·split
  ·rcases h with⟨h1,h2,h3⟩|⟨h1,-⟩
   ·exact .inl ⟨rfl,h2,h3⟩
   ·cases h1
  ·trivial
 ·trivial
theorem fA.drop {N:Nat}{a:Act}:∀{s:VS} (h:fA cx G N s a w) (ns:List Nat),fA cx G N (s.drop ns) a w
 |s,h,[]=>h
 |s,h,n::ns=>by
  unfold VS.drop;split
  ·refine fA.drop (h.put _ _ fun x hx v hv=>?_) ns
   rw [hx];exact JC hv
  ·exact fA.drop (h.put n .undef fun x _ v _=>trivial) ns
theorem fA.still {N:Nat}{s:VS}{a:Act}(h:fA cx G N s a w)(us:List Nat):∃G',fA cx G' N (rR us s) a w:=by
 cases us with
 |nil=>exact ⟨G,h⟩
 |cons u us=>
  obtain ⟨s1,s2⟩:=h.inv.turn (w':=w) (iO (u::us)) none rfl rfl rfl (Nat.le_refl _) (fun _ _ _=>rfl) (fun t b e=>by cases e);refine ⟨G.turn w (b8 (u::us)) none,⟨?_,fun t x hx=>?_,?_,h.size,h.defers⟩⟩
  ·show Inv cx _ (s.turn (some (PV.aO (b8 (u::us)))) (cT (PV.aO (b8 (u::us))) s.lh)).lh w
   rw [xq];exact s1
  ·replace hx:b6 t (s.turn (some (PV.aO (b8 (u::us)))) (cT (PV.aO (b8 (u::us))) s.lh)).env=some x:=hx
   rw [jr,Option.map_eq_some_iff]at hx;obtain ⟨y,hy,rfl⟩:=hx;exact s2 _ _ (h.env t y hy)
  ·show s.loc.map _=[]
   rw [h.loc];rfl
theorem xy {T:cO}{X:cM}{H:aP}{N:Nat}(hmix:P.follows .mixedOrders=true)(hX:df P T X)(hm:cx.m<=32)(hT:jb T cx):∀fuel:Nat,
 (∀(c:Code) (s:VS) (k:OG) (G:Gh) (a:Act) (w:World) (Q:Exit->Act->World->Prop),fA cx G N s a w->oG P X T H N fuel none c s k->(∀e G s a w,fA cx G N s a w->k e s->Q (P7 e) a w)->c.wp P Q a w)/\
 (∀(c0:Code) (C:Nat->Option (VS->Prop)) (c:Code) (s:VS) (k:OG) (G:Gh) (a:Act) (w:World) (Q:Exit->Act->World->Prop),fA cx G N s a w->oG P X T H N fuel (some (c0,C)) c s k->(∀e G s a w,fA cx G N s a w->k e s->Q (P7 e) a w)->
   (∀l J,C l=some J->∀G s a w,fA cx G N s a w->J s->∃rest,findLabel c0 l=some rest/\Wp P [.code rest,.inScope c0] Q a w)->Wp P [.code c,.inScope c0] Q a w)
 |0=>⟨fun c s k G a w Q _ he _=>he.elim,fun c0 C c s k G a w Q _ he _ _=>he.elim⟩
 |fuel+1=>by
  obtain ⟨ihA,ihB⟩:=xy hmix hX hm hT fuel;refine ⟨fun c s k G a w Q hr he hQ=>?_,fun c0 C c s k G a w Q hr he hQ hC=>?_⟩
  ·cases c with
   |skip=>exact wp_skip (hQ .normal G s a w hr he)
   |region id ops draw=>
    replace he:(match(generalizing:=false) draw,u9 N ops.toList with
     |false,true=>gP P X T ops.toList ops.toList s fun s=>dL (jE s).env fun env=>dL s.lh fun lh=>k .normal ⟨[],env,lh⟩
     |true,true=>match rO ops.toList (bH ops.toList)with
      |true=>match H (2000000+id)with
       |some h=>(PR P X T ops.toList (bH ops.toList) (rR (jD ops.toList s) s) fun s'=>dL (jE s').env fun env=>dL s'.lh fun lh=>h.cut s ⟨[],env,lh⟩)/\∀x,h.inv s x->k .normal (h.at_ s x)
       |none=>PR P X T ops.toList (bH ops.toList) (rR (jD ops.toList s) s) fun s=>dL (jE s).env fun env=>dL s.lh fun lh=>k .normal ⟨[],env,lh⟩
      |false=>False
     |_,_=>False):=he
    split at he
    ·rename_i hreg
     refine wp_region_list ?_;exact kP (K:=fun s=>dL (jE s).env fun env=>dL s.lh fun lh=>k .normal ⟨[],env,lh⟩) hX hm hT (Jw hreg) (fun G s a w hl hk=>hQ .normal G _ a w hl.finish (by rw [gy,gy]at hk;exact hk)) ops.toList 0 s a w G (by simp) (Nat.zero_le _) (hr.begin ops) he
    ·rename_i hreg
     split at he
     ·rename_i hop
      obtain ⟨G',hr'⟩:=hr.still (jD ops.toList s);split at he
      ·rename_i h hh
       exact JA (K:=fun s'=>dL (jE s').env fun env=>dL s'.lh fun lh=>h.cut s ⟨[],env,lh⟩) hmix hX hm hT (P6 hreg hop) (fun G s' a w hl hk=>by
        rw [gy,gy]at hk;have hf:=hl.finish.drop h.dead;rw [show(jE s').drop h.dead=_ from hk.1]at hf;exact hQ .normal G _ a w hf (he.2 _ hk.2)) hr'.loc (hr'.begin ops) he.1 id
      ·exact JA (K:=fun s=>dL (jE s).env fun env=>dL s.lh fun lh=>k .normal ⟨[],env,lh⟩) hmix hX hm hT (P6 hreg hop) (fun G s a w hl hk=>hQ .normal G _ a w hl.finish (by rw [gy,gy]at hk;exact hk)) hr'.loc (hr'.begin ops) he id
     ·exact he.elim
    ·exact he.elim
   |seq x y=>
    replace he:oG P X T H N fuel none x s fun e s=>match e with
     |.normal=>oG P X T H N fuel none y s k
     |e=>k e s:=he
    refine wp_seq (ihA x s _ G a w _ hr he fun e G s a w hr he=>?_);cases e with
    |normal=>exact ihA y s k G a w Q hr he hQ
    |exit id=>exact hQ _ G s a w hr he
    |goto l=>exact hQ _ G s a w hr he
    |ret=>exact hQ _ G s a w hr he
   |cond c x y=>
    replace he:Cz (bD [] none s c) (oG P X T H N fuel none x s k) (oG P X T H N fuel none y s k):=he;unfold Cz at he;split at he
    ·rename_i t hc
     exact wp_cond_split (JB hr hc) (fun ht=>ihA x s k G a w Q hr (he.1 ht) hQ) (fun ht=>ihA y s k G a w Q hr (he.2 ht) hQ)
    ·exact he.elim
   |block id x=>
    replace he:oG P X T H N fuel none x s fun e s=>match e with
     |.exit i=>bif Nat.beq i id then k .normal s else k (.exit i) s
     |e=>k e s:=he
    refine wp_block (ihA x s _ G a w _ hr he fun e G s a w hr he=>?_);cases e with
    |normal=>exact hQ _ G s a w hr he
    |exit i=>
     show(if i=id then _ else _)
     replace he:(bif Nat.beq i id then k .normal s else k (.exit i) s):=he
     by_cases e:i=id
     ·subst e
      rw [Nat.beq_refl]at he;rw [if_pos rfl];exact hQ .normal G s a w hr he
     ·rw [show Nat.beq i id=false by rw [Bool.eq_false_iff];exact fun hh=>e (Nat.eq_of_beq_eq_true hh)]at he
      rw [if_neg e];exact hQ (.exit i) G s a w hr he
    |goto l=>exact hQ _ G s a w hr he
    |ret=>exact hQ _ G s a w hr he
   |loop x=>
    replace he:(match H (jZ x)with
     |some h=>h.into s fun n s'=>oG P X T H N fuel none x s' fun e s''=>match e with
      |.normal=>h.back s n s''
      |e=>k e s''
     |none=>False):=he
    split at he
    ·rename_i h hh
     obtain ⟨hs,hi0,hb⟩:=he;have key:∀n,∀y,h.mu s y=n->h.inv s y->∀G a w,fA cx G N (h.at_ s y) a w->Wp P [.code x,.inLoop x] Q a w:=by
      intro n
      induction n using Nat.strongRecOn with
      |_ n ih=>
       intro y hn hy G a w hr;refine Wp.then rfl (ihA x _ _ G a w _ hr (hb y hy) fun e G s' a w hr he=>?_);cases e with
       |normal=>
        obtain ⟨hs',hz,hlt⟩:=he;replace hr:=hr.drop h.dead;rw [hs']at hr;exact Wp.step (items':=[.code x,.inLoop x]) (fun b k cs=>step_inLoop) (ih _ (by rw [<-hn];exact hlt) _ rfl hz G a w hr)
       |exit id=>exact hQ _ G s' a w hr he
       |goto l=>exact hQ _ G s' a w hr he
       |ret=>exact hQ _ G s' a w hr he
     have:=key _ _ rfl hi0 G a w (by rw [<-hs];exact hr.drop h.dead);show Wp P [.code (.loop x)] Q a w;exact Wp.step (items':=[.code x,.inLoop x]) (fun b k cs=>step_loop) this
    ·exact he.elim
   |exit id=>exact wp_exit (hQ (.exit id) G s a w hr he)
   |scope x=>
    have:=ihB x (fun _=>none) x s k G a w Q hr he hQ (fun l J hJ=>by cases hJ);show Wp P [.code (.scope x)] Q a w;exact Wp.step (items':=[.code x,.inScope x]) (fun b k cs=>step_scope) this
   |label l=>exact wp_label (hQ .normal G s a w hr he)
   |goto l=>exact wp_goto (hQ (.goto l) G s a w hr he)
   |ret=>exact wp_ret (hQ .ret G s a w hr he)
   |rangeFunc _ _ _ _=>exact he.elim
   |refuse _=>exact he.elim
  ·replace he:oG P X T H N fuel none c s fun e s=>match e with
    |.goto l=>match C l with
     |some J=>J s
     |none=>match findLabel c0 l with
      |none=>k (.goto l) s
      |some r=>match H (1000000+l)with
       |some h=>h.into s fun n s'=>oG P X T H N fuel (some (c0,fun l'=>bif Nat.beq l' l then some (h.back s n)else C l')) r s' k
       |none=>oG P X T H N fuel (some (c0,C)) r s k
    |e=>k e s:=he
   refine Wp.scope (ihA c s _ G a w _ hr he fun e G s a w hr he=>?_);cases e with
   |normal=>exact hQ _ G s a w hr he
   |exit id=>exact hQ _ G s a w hr he
   |ret=>exact hQ _ G s a w hr he
   |goto l=>
    replace he:(match C l with
     |some J=>J s
     |none=>match findLabel c0 l with
      |none=>k (.goto l) s
      |some r=>match H (1000000+l)with
       |some h=>h.into s fun n s'=>oG P X T H N fuel (some (c0,fun l'=>bif Nat.beq l' l then some (h.back s n)else C l')) r s' k
       |none=>oG P X T H N fuel (some (c0,C)) r s k):=he
    split at he
    ·rename_i J hJ
     exact .inl (hC l J hJ G s a w hr he)
    ·rename_i hCl
     split at he
     ·rename_i hf
      exact .inr ⟨hf,hQ (.goto l) G s a w hr he⟩
     ·rename_i r hf
      split at he
      ·rename_i h hh
       obtain ⟨hs,hi0,hb⟩:=he;have key:∀n,∀y,h.mu s y=n->h.inv s y->∀G a w,fA cx G N (h.at_ s y) a w->Wp P [.code r,.inScope c0] Q a w:=by
        intro n
        induction n using Nat.strongRecOn with
        |_ n ih=>
         intro y hn hy G a w hr;refine ihB c0 _ r _ k G a w Q hr (hb y hy) hQ fun l' J hJ G s' a w hr hj=>?_;replace hJ:(bif Nat.beq l' l then some (h.back s y)else C l')=some J:=hJ
         cases hb':Nat.beq l' l with
         |true=>
          rw [hb']at hJ;injection hJ with hJ;subst hJ
          obtain ⟨hs',hz,hlt⟩:=hj;replace hr:=hr.drop h.dead;rw [hs']at hr;rw [Nat.eq_of_beq_eq_true hb'];exact ⟨r,hf,ih _ (by rw [<-hn];exact hlt) _ rfl hz G a w hr⟩
         |false=>
          rw [hb']at hJ;exact hC l' J hJ G s' a w hr hj
       exact .inl ⟨r,hf,key _ _ rfl hi0 G a w (by rw [<-hs];exact hr.drop h.dead)⟩
      ·exact .inl ⟨r,hf,ihB c0 C r s k G a w Q hr he hQ hC⟩
end
section
variable [Wd] {P:Program} {cx:Cx} {G:Gh} {w:World}
def xz(tmps:Array Value)(r:ResultVar):Sem Value:=match r with
 |.tmp t=>Pure.pure (tmps.getD t undef)
 |.cell a t=>do loadVar t (<-asAddr (tmps.getD a undef))
theorem CL(fn:Func)(tmps:Array Value):results fn tmps=(do let vs<-fn.results.mapM (xz tmps);Pure.pure (if h:vs.size=1 then vs[0]else .tuple vs)):=rfl
theorem Mu {T:cO}(hT:mq T cx.F0){N:Nat}{s:VS}{a:Act}(h:fA cx G N s a w){r:ResultVar}{v:PV}(hv:OO P T s r=some v):∃u,(xz a.tmps r).run P w=.ok u w/\aN v G w u:=by
 unfold OO at hv;split at hv
 ·rename_i t
  injection hv with hv;subst hv
  refine ⟨_,rfl,?_⟩;cases he:b6 t s.env with
  |none=>trivial
  |some x=>exact h.env t x he
 ·rename_i t ty
  split at hv
  ·rename_i n off he
   split at hv
   ·rename_i x hl
    injection hv with hv;subst hv
    obtain ⟨b,h1,h2⟩:=h.env t _ he;obtain ⟨u,r1,r2⟩:=zt (P:=P) h.inv hT (t:=ty) (x:=.ptr n off) (.inl hl) (show aN (.ptr n off) G w _ from⟨b,h1,h2⟩);refine ⟨u,?_,r2⟩;show(do loadVar ty (<-asAddr (a.tmps.getD t undef)):Sem Value).run P w=_
    rw [h2]at r1⊢;simpa [asAddr,Instr.loadAt,Instr.sureAddr]using r1
   ·cases hv
  ·cases hv
theorem sq {T:cO}(hT:mq T cx.F0){N:Nat}{s:VS}{a:Act}(h:fA cx G N s a w):∀{rs:List ResultVar} {xs:List PV},zf P T s rs=some xs->∃us:List Value,(rs.mapM (xz a.tmps)).run P w=.ok us w/\aw xs G w us
 |[],xs,hv=>by
  unfold zf at hv;injection hv with hv;subst hv
  exact ⟨[],rfl,rfl⟩
 |r::rs,xs,hv=>by
  unfold zf at hv;split at hv
  ·rename_i y ys h1 h2
   injection hv with hv;subst hv
   obtain ⟨u,r1,r2⟩:=Mu hT h h1;obtain ⟨us,r3,r4⟩:=sq hT h h2;refine ⟨u::us,?_,u,us,rfl,r2,r4⟩;rw [List.mapM_cons,Sem.run_bind,r1,Result.andThen_ok,Sem.run_bind,r3];rfl
  ·cases hv
theorem mw {T:cO}(hT:mq T cx.F0){N:Nat}{s:VS}{a:Act}(h:fA cx G N s a w){fn:Func}{v:PV}(hv:dw P T s fn.results.toList=some v):∃u,(results fn a.tmps).run P w=.ok u w/\aN v G w u:=by
 have gen:∀(us:List Value),((fn.results.toList.mapM (xz a.tmps)).run P w=.ok us w)->
  (results fn a.tmps).run P w=.ok (if h:us.toArray.size=1 then us.toArray[0]else .tuple us.toArray) w:=by
  intro us hu;rw [CL];simp only [Array.mapM_eq_mapM_toList,Sem.run_bind,Sem.run_map];rw [hu];rfl
 unfold dw at hv;split at hv
 ·rename_i x hx
  injection hv with hv;subst hv
  obtain ⟨us,r1,r2⟩:=sq hT h hx;obtain ⟨u,us',rfl,h1,h2⟩:=r2;obtain rfl:us'=[]:=h2;exact ⟨u,by rw [gen _ r1];rfl,h1⟩
 ·rename_i xs hne hx
  injection hv with hv;subst hv
  obtain ⟨us,r1,r2⟩:=sq hT h hx;refine ⟨.tuple us.toArray,?_,us,r2,rfl⟩;rw [gen _ r1,dif_neg];intro h1;have h2:us.length=1:=by simpa using h1
  have h3:=r2.length
  match xs,(by omega:xs.length=1)with
  |[x],_=>exact hne x rfl
 ·cases hv
theorem lF {xs:List PV}{t:Nat}{x:PV}:∀{ts:List Nat},b6 t (iK xs ts)=some x->x=xs.getD t .undef
 |[],h=>by cases h
 |u::ts,h=>by
  replace h:(bif Nat.beq u t then some (xs.getD u .undef)else b6 t (iK xs ts))=some x:=h
  cases hb:Nat.beq u t with
  |true=>
   rw [hb]at h;have:=Nat.eq_of_beq_eq_true hb;subst this;injection h with h;exact h.symm
  |false=>rw [hb]at h;exact lF h
theorem Inv.bare {F:Nat->Nat->Option Value}(h:Fits F w):Inv ⟨[],w,F,0,fun _=>none⟩ (kt F) [] w:=
 ⟨h,gm.refl _,fun b o u hu=>.inl hu,(fun n x hx=>by cases hx),(fun n b hb=>by cases hb),(fun t b ht=>by cases ht),(fun n n' b hb=>by cases hb),(fun t t' b ht=>by cases ht),(fun n t b hb=>by cases hb),(fun i hi=>by cases hi),⟨rfl,rfl,rfl,Nat.le_refl _,fun _ _ _=>rfl⟩⟩
theorem bR {T:cO}{X:cM}{H:aP}{fuel:Nat}{f:FuncId}{fn:Func}(hmix:P.follows .mixedOrders=true)(hX:df P T X)(hf:P.funcs[f]?=some fn)(hn:(fn.name== "runtime.NumGoroutine")=false){xs:List PV}{r:PV}{pre:Prop}
 (he:pre->cD P X T H fuel fn xs fun v=>v=r)(hnm:PV.aC PV.bU xs=[]:=by rfl):ae P T f xs ⟨pre,r⟩:=by
 refine .nB hnm ?_;intro hpre F w vs hfits htab hwd hx;have he:=he hpre;unfold cD at he;cases hb:fn.body with
 |none=>rw [hb]at he;exact he.elim
 |some c=>
  rw [hb]at he;replace he:oG P X T H fn.ntmps fuel none c ⟨[],iK xs (slotsOf (qf fn) fn.ntmps),[]⟩ (fun e s=>match e with
   |.normal=>Gq (dw P T s fn.results.toList) fun v=>v=r
   |.ret=>Gq (dw P T s fn.results.toList) fun v=>v=r
   |_=>False):=he
  left;refine ⟨?_,?_⟩
  ·unfold callFunc
   simp only [Sem.run_bind,run_program,Result.andThen_ok,hf];rw [hn];simp [hb]
  ·refine calls_of_wp hf hb ?_
   have hlen:=hx.length;have hrel:fA ⟨[],w,F,0,fun _=>none⟩ (kt F) fn.ntmps ⟨[],iK xs (slotsOf (qf fn) fn.ntmps),[]⟩ {tmps:=vs.toArray++Array.replicate (fn.ntmps-vs.toArray.size) undef,defers:=[]} w:=by
    refine ⟨Inv.bare hfits,fun t x ht=>?_,rfl,by simp;omega,rfl⟩;have:=lF ht;subst this;by_cases hlt:t<xs.length
    ·have hg:xs[t]?=some (xs.getD t .undef):=by rw [List.getD,List.getElem?_eq_getElem hlt];rfl
     obtain ⟨u,u1,u2⟩:=hx.get hg;have hlt2:t<vs.length:=by omega
     have:(vs.toArray++Array.replicate (fn.ntmps-vs.toArray.size) undef).getD t undef=u:=by
      rw [List.getElem?_eq_getElem hlt2]at u1;injection u1 with u1
      rw [Array.getD_eq_getD_getElem?,Array.getElem?_append_left (by simpa using hlt2)];rw [List.getElem?_toArray,List.getElem?_eq_getElem hlt2,u1];rfl
     show aN _ _ _ ((vs.toArray++Array.replicate (fn.ntmps-vs.toArray.size) undef).getD t undef);rw [this];exact u2
    ·have:xs.getD t .undef=.undef:=by rw [List.getD,List.getElem?_eq_none (by omega)];rfl
     rw [this];trivial
   have fin:∀G s (a:Act) w',fA ⟨[],w,F,0,fun _=>none⟩ G fn.ntmps s a w'->Gq (dw P T s fn.results.toList) (fun v=>v=r)->a.defers=[]/\∃u,(results fn a.tmps).run P w'=.ok u w'/\∃v,Ending.returned u=.returned v/\Came F w r v w':=by
    intro G s a w' hr ho;unfold Gq at ho;split at ho
    ·rename_i r0 hr0
     rw [bJ]at ho;split at ho
     ·rename_i hnam
      obtain ⟨u,g1,g2⟩:=mw (cx:=⟨[],w,F,0,fun _=>none⟩) htab hr hr0;refine ⟨hr.defers,u,g1,u,rfl,?_⟩;obtain ⟨s1,s2⟩:=hr.inv.turn (w':=w') (iO (aX [] (PV.ee PV.bM r0))) none rfl rfl rfl (Nat.le_refl _) (fun _ _ _=>rfl) (fun t b e=>by cases e);have h2:=s2 _ _ g2;have hag:r0.cC (PV.aO (b8 (aX [] (PV.ee PV.bM r0))))=r0.cC (PV.aO dC):=by
       refine j3 (fun y=>y.bM=[]\/∀t∈y.bM,t∈aX [] (PV.ee PV.bM r0)) (fun y _ hp=>j4 hp) (fun y _ ht=>?_);rcases ht with h1|h1
       ·exact .inl h1
       ·exact .inr fun t htm=>(fv (PV.ee PV.bM r0) []).2 t (h1 t htm)
      rw [hag]at h2;obtain ⟨b1,b2⟩:=nC r0;have h3:=aN.fa b1 (by rw [b2];exact hnam) h2;rw [ho]at h3;refine ⟨(G.turn w' (b8 (aX [] (PV.ee PV.bM r0))) none).F,fun _=>none,⟨s1.kept.os,s1.kept.tape,s1.kept.output,s1.kept.size,fun k hk=>s1.kept.block k hk (by simp)⟩,s1.base,s1.fits,fun b o u hu=>?_,(fun t b e=>by cases e),h3⟩;rcases s1.ext b o u hu with h4|h4
      ·exact .inl h4
      ·rcases h4 with h4|h4
       ·cases h4
       ·exact .inr h4
     ·exact ho.elim
    ·exact ho.elim
   refine (xy hmix hX (by show 0<=32;omega) (show jb T ⟨[],w,F,0,fun _=>none⟩from⟨htab,fun b hb=>(by cases hb),hwd⟩) fuel).1 c _ _ (kt F) _ w _ hrel he fun e G s a w' hr hk=>?_;cases e with
   |normal=>exact fin G s a w' hr hk
   |ret=>exact fin G s a w' hr hk
   |exit i=>exact hk.elim
   |goto l=>exact hk.elim
end
section
variable [Wd] {P:Program} {T:cO}
def bS:List (FuncId×(List PV->Option aD))->cM
 |[],_,_=>none
 |e::l,f,xs=>bif Nat.beq e.1 f then(match e.2 xs with |some c=>some c|none=>bS l f xs)else bS l f xs
theorem ax:df P T (bS []):=fun f xs c h=>by cases h
theorem ah {f:FuncId}{g:List PV->Option aD}{l:List (FuncId×(List PV->Option aD))}(h:∀xs c,g xs=some c->ae P T f xs c)(hl:df P T (bS l)):df P T (bS ((f,g)::l)):=fun f' xs c hc=>by
 replace hc:(bif Nat.beq f f' then(match g xs with |some c=>some c|none=>bS l f' xs)else bS l f' xs)=some c:=hc
 cases hb:Nat.beq f f' with
 |true=>
  rw [hb]at hc;cases hg:g xs with
  |none=>rw [hg]at hc;exact hl f' xs c hc
  |some c'=>
   rw [hg]at hc;injection hc with hc;subst hc
   rw [<-Nat.eq_of_beq_eq_true hb];exact h xs c' hg
 |false=>rw [hb]at hc;exact hl f' xs c hc
theorem o6 {f:FuncId}{fn:Func}{c:Code}(hf:P.funcs[f]?=some fn)(hn:(fn.name== "runtime.NumGoroutine")=false)(hb:fn.body=some c)(vs:Array Value)(w:World):(callFunc f vs).run P w=.ok (.enter f vs) w:=by
 unfold callFunc;simp only [Sem.run_bind,run_program,Result.andThen_ok,hf];rw [hn];simp [hb]
theorem ae.cm {f:FuncId}{fn:Func}{c:Code}(hf:P.funcs[f]?=some fn)(hn:(fn.name== "runtime.NumGoroutine")=false)(hb:fn.body=some c){xs:List PV}{r:PV}{pre:Prop}
 (h:pre->∀(F:Nat->Nat->Option Value) (w:World) (vs:List Value),Fits F w->mq T F->Wd.wd w->aw xs (kt F) w vs->∃u,(Calls P f vs.toArray w fun e w'=>e=.returned u/\Below w.heap.size w w')/\∀G w,aN r G w u)(hnm:PV.aC PV.bU xs=[]:=by rfl):ae P T f xs ⟨pre,r⟩:=by
 refine .nB hnm ?_;intro hpre F w vs hF hT hwd hx;obtain ⟨u,h1,h2⟩:=h hpre F w vs hF hT hwd hx;refine .inl ⟨o6 hf hn hb _ w,h1.mono fun e w' he=>?_⟩;obtain ⟨rfl,hb⟩:=he;exact ⟨u,rfl,F,fun _=>none,hb,gm.refl _,fun b o q hq=>by
  have:=hF b o q hq;rw [hb.cell (p:=⟨b,o,none⟩) (gF this)];exact this,fun b o q hq=>.inl hq,(fun t b e=>by cases e),h2 _ _⟩
theorem ae.walk {f:FuncId}{fn:Func}{c:Code}(hf:P.funcs[f]?=some fn)(hn:(fn.name== "runtime.NumGoroutine")=false)(hb:fn.body=some c){xs:List PV}{r:PV}{pre:Prop}(h:ae P T f xs ⟨pre,r⟩)(hp:pre)
 {F:Nat->Nat->Option Value}{w:World}{vs:List Value}(hF:Fits F w)(hT:mq T F)(hwd:Wd.wd w)(hx:aw xs (kt F) w vs)(hnm:PV.aC PV.bU xs=[]:=by rfl):Calls P f vs.toArray w fun e w'=>∃u,e=.returned u/\Came F w r u w':=by
 rcases h.plain hnm hp F w vs hF hT hwd hx with⟨-,h2⟩|⟨u,w',h1,-⟩
 ·exact h2
 ·rw [o6 hf hn hb]at h1;cases h1
def az:cO:=fun _=>.undef
theorem JD(F:Nat->Nat->Option Value):mq az F:=fun g hg=>by cases hg
theorem GI(w:World):Fits (fun _ _=>none) w:=fun b o u h=>by cases h
theorem ae.to {f:FuncId}{xs:List PV}{c:aD}{pre:Prop}{r:PV}(h:ae P T f xs c)(hp:pre->c.pre)(hr:pre->c.r=r)(hnm:PV.aC PV.bU xs=[]:=by rfl):ae P T f xs ⟨pre,r⟩:=.nB hnm fun hpre F w vs hF hT hwd hx=>by
 have:=h.plain hnm (hp hpre) F w vs hF hT hwd hx;rw [hr hpre]at this;exact this
end
end Go.Vc
namespace Go.Vc
theorem en(l:Bs)(z:Int):0<=ag l z/\ag l z<=255:=by
 unfold ag;have:=(l.getD z.toNat 0).toNat_lt;omega
theorem JE {α:Type}{L:List α}{i n:Nat}{z b:α}(hn:n=L.length)(hb:L[i]?=some b):(L.take i++List.replicate (n-i) z).set i b=L.take (i+1)++List.replicate (n-(i+1)) z:=by
 have hi:i<L.length:=(List.getElem?_eq_some_iff.1 hb).1;have h1:(L.take i).length=i:=by rw [List.length_take];omega
 rw [List.set_append,if_neg (by omega),h1,Nat.sub_self,show n-i=(n-(i+1))+1 by omega,List.replicate_succ,List.set_cons_zero,List.take_add_one,hb];simp
theorem uk {α:Type}{L M:List α}{i:Nat}{b:α}(hn:M.length=L.length)(hb:L[i]?=some b):(L.take i++M.drop i).set i b=L.take (i+1)++M.drop (i+1):=by
 have hi:i<L.length:=(List.getElem?_eq_some_iff.1 hb).1;have h1:(L.take i).length=i:=by rw [List.length_take];omega
 rw [List.set_append,if_neg (by omega),h1,Nat.sub_self,List.take_add_one,hb,List.drop_eq_getElem_cons (l:=M) (i:=i) (by omega),List.set_cons_zero];simp
theorem jg(l:Bs)(z:Int):b4 (ag l z)=l.getD z.toNat 0:=by
 unfold b4 ag;simp
end Go.Vc
namespace Go.Vc
open Go.RowKit
section
variable [Wd] {P:Program} {cx:Cx} {G:Gh} {lh:List (Nat×PV)} {w:World}
def hZ:Nat->List PV->List (Nat×PV)
 |_,[]=>[]
 |i,x::l=>(i,x)::hZ (i+1) l
def EZ(k n:Nat):Option Nat:=bif Nat.blt n k then some n else none
def rz(m:Nat):List PV->(List PV->Prop)->Prop
 |[],k=>k []
 |x::l,k=>cI m x fun x=>rz m l fun l=>k (x::l)
def O2(k:Nat)(lh:List (Nat×PV))(K:List PV->Prop):Prop:=match nk lh (List.range k)with
 |some cs=>rz 6 cs fun cs=>match Nat.blt (aX [] (PV.aC PV.bM cs)).length 60 with
  |true=>K (PV.bh (PV.fj (EZ k) (Cn (aX [] (PV.aC PV.bM cs)))) cs)
  |false=>False
 |none=>False
def l6(k:Nat)(lh:List (Nat×PV))(r:Option PV)(K:PV->List PV->Prop):Prop:=match r with
 |some r=>cI 4 r fun r=>match PV.ee PV.bU r with
  |[]=>O2 k (cT (PV.aO (b8 (aX [] (PV.ee PV.bM r)))) lh) fun outs=>K (r.cC (PV.aO dC)) outs
  |_=>False
 |none=>False
def b9(P:Program)(X:cM)(T:cO)(H:aP)(fuel:Nat)(fn:Func)(args ins:List PV)(K:PV->List PV->Prop):Prop:=
 match fn.body with
 |none=>False
 |some c=>oG P X T H fn.ntmps fuel none c ⟨[],iK args (slotsOf (qf fn) fn.ntmps),hZ 0 ins⟩ fun e s=>match e with
  |.normal=>l6 ins.length s.lh (dw P T s fn.results.toList) K
  |.ret=>l6 ins.length s.lh (dw P T s fn.results.toList) K
  |_=>False
theorem gR:∀{ins:List PV} {i n:Nat},b6 n (hZ i ins)=if i<=n then ins[n-i]?else none
 |[],i,n=>by simp [hZ,b6]
 |x::l,i,n=>by
  show(bif Nat.beq i n then some x else b6 n (hZ (i+1) l))=_
  by_cases e:i=n
  ·subst e;simp
  ·have:Nat.beq i n=false:=by rw [Bool.eq_false_iff];exact fun h=>e (Nat.eq_of_beq_eq_true h)
   rw [this];show b6 n (hZ (i+1) l)=_;rw [gR];by_cases h:i<=n
   ·rw [if_pos (by omega),if_pos h,show n-i=(n-(i+1))+1 by omega];rfl
   ·rw [if_neg (by omega),if_neg h]
theorem my(m:Nat):∀(l:List PV) (k:List PV->Prop),rz m l k=k l
 |[],k=>rfl
 |x::l,k=>by
  show cI m x (fun x=>rz m l fun l=>k (x::l))=_;rw [bJ,my m l]
theorem bT {T:cO}{X:cM}{H:aP}{fuel:Nat}{f:FuncId}{fn:Func}(hmix:P.follows .mixedOrders=true)(hX:df P T X)(hf:P.funcs[f]?=some fn)(hn:(fn.name== "runtime.NumGoroutine")=false){args ins:List PV}{r:PV}{outs:List PV}{pre:Prop}
 (h32:ins.length<=32)(he:pre->b9 P X T H fuel fn args ins fun v os=>v=r/\os=outs):bE P T f args ins pre r outs:=by
 intro hpre F w vs bs τ hfits htab hwd hlb hlτ hl hx;have he:=he hpre;unfold b9 at he;cases hb:fn.body with
 |none=>rw [hb]at he;exact he.elim
 |some c=>
  rw [hb]at he;replace he:oG P X T H fn.ntmps fuel none c ⟨[],iK args (slotsOf (qf fn) fn.ntmps),hZ 0 ins⟩ (fun e s=>match e with
   |.normal=>l6 ins.length s.lh (dw P T s fn.results.toList) fun v os=>v=r/\os=outs
   |.ret=>l6 ins.length s.lh (dw P T s fn.results.toList) fun v os=>v=r/\os=outs
   |_=>False):=he
  left;refine ⟨?_,?_⟩
  ·unfold callFunc
   simp only [Sem.run_bind,run_program,Result.andThen_ok,hf];rw [hn];simp [hb]
  ·refine calls_of_wp hf hb ?_
   have hlen:=hx.length;obtain ⟨cx,hcx⟩:∃cx:Cx,cx=⟨bs++(List.range 64).filterMap τ,w,F,ins.length,fun i=>bs[i]?⟩:=⟨_,rfl⟩;have hps:∀b,b∈cx.ps↔b∈bs\/∃t,τ t=some b:=fun b=>by
    rw [hcx];show b∈bs++_ ↔_;rw [List.mem_append,List.mem_filterMap];refine or_congr Iff.rfl ⟨fun⟨t,_,h⟩=>⟨t,h⟩,fun⟨t,h⟩=>⟨t,by have:=(hl.mks t b h).2.1;simpa using this,h⟩⟩
   have hw0:cx.w0=w:=by rw [hcx]
   have hF0:cx.F0=F:=by rw [hcx]
   have hm0:cx.m=ins.length:=by rw [hcx]
   have hσ0:∀i,cx.σ0 i=bs[i]?:=fun i=>by rw [hcx]
   have hinv:Inv cx ⟨fun i=>bs[i]?,τ,F⟩ (hZ 0 ins) w:=by
    refine ⟨hfits,by rw [hF0];exact gm.refl _,fun b o u hu=>.inl (by rw [hF0];exact hu),fun n x hx=>?_,fun n b hb=>?_,fun t b ht=>?_,hl.nd,hl.inj,fun n t b hb ht=>(hl.mks t b ht).2.2.2.2 (List.mem_of_getElem? hb),fun i hi=>(hσ0 i).symm,⟨by rw [hw0],by rw [hw0],by rw [hw0],by rw [hw0];exact Nat.le_refl _,fun _ _ _=>by rw [hw0]⟩⟩
    ·rw [gR,if_pos (Nat.zero_le n),Nat.sub_zero]at hx
     exact hl.box n x hx
    ·have hlt:n<ins.length:=by rw [<-hl.len];exact (List.getElem?_eq_some_iff.1 hb).1
     refine ⟨⟨ins[n],by rw [gR,if_pos (Nat.zero_le n),Nat.sub_zero];exact List.getElem?_eq_getElem hlt⟩,hl.bF b (List.mem_of_getElem? hb),.inl ((hps b).2 (.inl (List.mem_of_getElem? hb)))⟩
    ·obtain ⟨h1,h2,h3,h4,h5⟩:=hl.mks t b ht
     exact ⟨h1,h3,h4,.inl ((hps b).2 (.inr ⟨t,ht⟩))⟩
   have hrel:fA cx ⟨fun i=>bs[i]?,τ,F⟩ fn.ntmps ⟨[],iK args (slotsOf (qf fn) fn.ntmps),hZ 0 ins⟩ {tmps:=vs.toArray++Array.replicate (fn.ntmps-vs.toArray.size) undef,defers:=[]} w:=by
    refine ⟨hinv,fun t x ht=>?_,rfl,by simp;omega,rfl⟩;have:=lF ht;subst this;by_cases hlt:t<args.length
    ·have hg:args[t]?=some (args.getD t .undef):=by rw [List.getD,List.getElem?_eq_getElem hlt];rfl
     obtain ⟨u,u1,u2⟩:=hx.get hg;have hlt2:t<vs.length:=by omega
     have:(vs.toArray++Array.replicate (fn.ntmps-vs.toArray.size) undef).getD t undef=u:=by
      rw [List.getElem?_eq_getElem hlt2]at u1;injection u1 with u1
      rw [Array.getD_eq_getD_getElem?,Array.getElem?_append_left (by simpa using hlt2)];rw [List.getElem?_toArray,List.getElem?_eq_getElem hlt2,u1];rfl
     show aN _ _ _ ((vs.toArray++Array.replicate (fn.ntmps-vs.toArray.size) undef).getD t undef);rw [this];exact u2
    ·have:args.getD t .undef=.undef:=by rw [List.getD,List.getElem?_eq_none (by omega)];rfl
     rw [this];trivial
   have fin:∀G s (a:Act) w',fA cx G fn.ntmps s a w'->l6 ins.length s.lh (dw P T s fn.results.toList) (fun v os=>v=r/\os=outs)->a.defers=[]/\∃u,(results fn a.tmps).run P w'=.ok u w'/\∃v,Ending.returned u=.returned v/\kO F bs τ w r outs v w':=by
    intro G s a w' hr ho;unfold l6 at ho;split at ho
    ·rename_i r0 hr0
     rw [bJ]at ho;split at ho
     ·rename_i hnam
      obtain ⟨u,g1,g2⟩:=mw (cx:=cx) (by rw [hF0];exact htab) hr hr0;refine ⟨hr.defers,u,g1,u,rfl,?_⟩;obtain ⟨s1,s2⟩:=hr.inv.turn (w':=w') (iO (aX [] (PV.ee PV.bM r0))) none rfl rfl rfl (Nat.le_refl _) (fun _ _ _=>rfl) (fun t b e=>by cases e);have h2:=s2 _ _ g2;have hag:r0.cC (PV.aO (b8 (aX [] (PV.ee PV.bM r0))))=r0.cC (PV.aO dC):=by
       refine j3 (fun y=>y.bM=[]\/∀t∈y.bM,t∈aX [] (PV.ee PV.bM r0)) (fun y _ hp=>j4 hp) (fun y _ ht=>?_);rcases ht with h1|h1
       ·exact .inl h1
       ·exact .inr fun t htm=>(fv (PV.ee PV.bM r0) []).2 t (h1 t htm)
      rw [hag]at h2;obtain ⟨b1,b2⟩:=nC r0;have h3:=aN.fa b1 (by rw [b2];exact hnam) h2;obtain ⟨G2,hG2⟩:∃G2,G2=G.turn w' (b8 (aX [] (PV.ee PV.bM r0))) none:=⟨_,rfl⟩;obtain ⟨lh2,hlh2⟩:∃l,l=cT (PV.aO (b8 (aX [] (PV.ee PV.bM r0)))) s.lh:=⟨_,rfl⟩;rw [<-hG2,<-hlh2]at s1;rw [<-hlh2]at ho;rw [<-hG2]at h3;unfold O2 at ho;split at ho
      ·rename_i cs hcs
       rw [my]at ho;split at ho
       ·rename_i hms
        obtain ⟨e1,e2⟩:=ho;obtain ⟨ms,hmse⟩:∃ms,ms=aX [] (PV.aC PV.bM cs):=⟨_,rfl⟩;rw [<-hmse]at e2 hms;have hmd:ms.Nodup:=by rw [hmse];exact ik _ _ List.nodup_nil
        have hm60:ms.length<60:=Nat.le_of_ble_eq_true hms;rw [e1]at h3;obtain ⟨hcl,hcg⟩:=je hcs;rw [List.length_range]at hcl;have hlen2:outs.length=ins.length:=by rw [<-e2,gw,hcl]
        have hσ:∀i,i<ins.length->G2.σ i=bs[i]?:=fun i hi=>by rw [s1.par i (by rw [hm0];exact hi),hσ0]
        have hσb:∀i b,bs[i]?=some b->G2.σ i=some b:=fun i b h=>by
         rw [hσ i (by rw [<-hl.len];exact (List.getElem?_eq_some_iff.1 h).1),h]
        obtain ⟨τ',hτ'⟩:∃τ':Nat->Option Nat,τ'=fun t=>match t with |0=>none|t+1=>(ms[t]?).bind G2.τ:=⟨_,rfl⟩
        have hτ:∀t b,τ' t=some b->∃i m,t=i+1/\ms[i]?=some m/\G2.τ m=some b:=fun t b ht=>by
         rw [hτ']at ht;cases t with
         |zero=>cases ht
         |succ t=>
          obtain ⟨m,h1,h2⟩:=Option.bind_eq_some_iff.1 (show(ms[t]?).bind G2.τ=some b from ht);exact ⟨t,m,rfl,h1,h2⟩
        have own:∀b,Own cx b->b∉bs->w.heap.size<=b\/∃t,τ t=some b:=fun b ho hnb=>by
         rcases ho with ho|ho
         ·rcases (hps b).1 ho with g|g
          ·exact absurd g hnb
          ·exact .inr g
         ·rw [hw0]at ho;exact .inl ho
        refine ⟨G2.F,τ',by rw [s1.kept.os,hw0],by rw [s1.kept.tape,hw0],by rw [s1.kept.output,hw0],by have:=s1.kept.size;rw [hw0]at this;exact this,fun k hk h1 h2=>?_,by have:=s1.base;rw [hF0]at this;exact this,s1.fits,fun b o q hq=>?_,fun t b ht=>?_,⟨by rw [hl.len,hlen2],hl.nd,fun b hb=>?_,fun t b ht=>?_,fun t t' b h1 h2=>?_,fun i x hx=>?_⟩,h3⟩
        ·have:=s1.kept.block k (by rw [hw0];exact hk) fun hp=>by
          rcases (hps k).1 hp with g|⟨t,g⟩
          ·exact h1 g
          ·exact h2 t g
         rw [hw0]at this;exact this
        ·rcases s1.ext b o q hq with g|g
         ·rw [hF0]at g;exact .inl g
         ·refine .inr (own b g fun hb=>?_)
          obtain ⟨i,hi⟩:=List.mem_iff_getElem?.1 hb;rw [(s1.boxF i b (hσb i b hi)).2.1 o]at hq;cases hq
        ·obtain ⟨i,m,-,-,g⟩:=hτ t b ht
         refine own b (s1.mark m b g).2.2.2 fun hb=>?_;obtain ⟨j,hj⟩:=List.mem_iff_getElem?.1 hb;exact s1.disj j m b (hσb j b hj) g
        ·obtain ⟨i,hi⟩:=List.mem_iff_getElem?.1 hb
         exact (s1.boxF i b (hσb i b hi)).2.1
        ·obtain ⟨i,m,rfl,g1,g⟩:=hτ t b ht
         obtain ⟨k1,k2,k3,k4⟩:=s1.mark m b g;have hil:i<ms.length:=(List.getElem?_eq_some_iff.1 g1).1;refine ⟨by omega,by omega,k2,k3,fun hb=>?_⟩;obtain ⟨j,hj⟩:=List.mem_iff_getElem?.1 hb;exact s1.disj j m b (hσb j b hj) g
        ·obtain ⟨i,m,rfl,g1,g2⟩:=hτ t b h1
         obtain ⟨j,m',rfl,g3,g4⟩:=hτ t' b h2;have:=s1.injτ m m' b g2 g4;subst this;obtain ⟨a1,-⟩:=List.getElem?_eq_some_iff.1 g1;have:=(List.getElem?_inj a1 hmd).1 (g1.trans g3.symm);omega
        ·rw [<-e2,gv]at hx
         cases hc':cs[i]?with
         |none=>rw [hc']at hx;cases hx
         |some c0=>
          rw [hc']at hx;injection hx with hx;subst hx
          have hil:i<ins.length:=by rw [<-hcl];exact (List.getElem?_eq_some_iff.1 hc').1
          obtain ⟨c1,g1,g2⟩:=hcg i i (by rw [List.getElem?_range hil]);rw [hc']at g1;injection g1 with g1;subst g1
          obtain ⟨b,g3,g4⟩:=s1.box i c0 g2;refine ⟨b,by rw [<-hσ i hil];exact g3,fK.both (G:=G2) (G':=⟨fun i=>bs[i]?,τ',G2.F⟩) rfl (gm.refl _) (fun n m hk b2 hb2=>?_) (fun u hu=>?_) (fun t u h0 ht=>?_) g4⟩
          ·unfold EZ at hk
           cases hlt:Nat.blt n ins.length with
           |false=>rw [hlt]at hk;cases hk
           |true=>
            rw [hlt]at hk;injection hk with hk;subst hk
            show bs[n]?=some b2;rw [<-hσ n (Nat.le_of_ble_eq_true hlt)];exact hb2
          ·rcases oV hu with⟨-,e⟩|⟨e,-⟩
           ·exact e
           ·exact absurd rfl e
          ·rcases oV ht with⟨e,-⟩|⟨-,j,rfl,h1⟩
           ·exact absurd e h0
           ·refine ⟨by omega,fun b hb=>⟨?_,rfl⟩⟩
            show τ' (j+1)=some b;rw [hτ'];show(ms[j]?).bind G2.τ=_;rw [h1];exact hb
       ·exact ho.elim
      ·exact ho.elim
     ·exact ho.elim
    ·exact ho.elim
   refine (xy hmix hX (by rw [hm0];exact h32) (show jb T cx from⟨by rw [hF0];exact htab,fun b hb=>?_,by rw [hw0];exact hwd⟩) fuel).1 c _ _ ⟨fun i=>bs[i]?,τ,F⟩ _ w _ hrel he fun e G s a w' hr hk=>?_
   ·rcases (hps b).1 hb with g|⟨t,g⟩
    ·exact hlb b g
    ·exact hlτ t b g
   ·cases e with
    |normal=>exact fin G s a w' hr hk
    |ret=>exact fin G s a w' hr hk
    |exit i=>exact hk.elim
    |goto l=>exact hk.elim
def PV.P8:List Nat->PV->PV
 |[],x=>x
 |i::p,.agg l=>PV.P8 p (l.getD i .undef)
 |_,_=>.undef
def P9(f:PV->PV):Nat->List PV->List PV
 |_,[]=>[]
 |0,x::l=>f x::l
 |i+1,x::l=>x::P9 f i l
def PV.Qa(v:PV):List Nat->PV->PV
 |[],_=>v
 |i::p,.agg l=>.agg (P9 (PV.Qa v p) i l)
 |_,_=>.undef
def VS.bx(s:VS)(n:Nat)(p:List Nat):PV:=PV.P8 p ((b6 n s.lh).getD .undef)
def VS.Qb(s:VS)(n:Nat)(p:List Nat)(v:PV):VS:=⟨s.loc,s.env,iI n (PV.Qa v p ((b6 n s.lh).getD .undef)) s.lh⟩
end
section
variable [Wd] {P:Program} {cx:Cx} {G:Gh} {lh:List (Nat×PV)} {w:World}
theorem kO.still {F:Nat->Nat->Option Value}{bs:List Nat}{τ:Nat->Option Nat}{r:PV}{os:List PV}{u:Value}{w':World}(h:kO F bs τ w r os u w'):kO F bs τ w r (PV.bh (PV.aO dC) os) u w':=by
 classical
 obtain ⟨F',τ',c1,c2,c3,c4,c5,c6,c7,c8,c9,c10,c11⟩:=h;have hno:∀t b,τ' t=some b->∀o,F' b o=none:=fun t b ht=>(c10.mks t b ht).2.2.2.1;have hle:gm F' (fun b o=>if ∃t,τ' t=some b then w'.cell? ⟨b,o,none⟩else F' b o):=fun b o v hv=>by
  dsimp only;by_cases hm:∃t,τ' t=some b
  ·obtain ⟨t,ht⟩:=hm
   rw [hno t b ht]at hv;cases hv
  ·rw [if_neg hm];exact hv
 refine ⟨fun b o=>if ∃t,τ' t=some b then w'.cell? ⟨b,o,none⟩else F' b o,fun _=>none,c1,c2,c3,c4,c5,c6.trans hle,fun b o v hv=>?_,fun b o v hv=>?_,(fun t b e=>by cases e),⟨by rw [gw];exact c10.len,c10.nd,fun b hb o=>?_,(fun t b e=>by cases e),(fun t t' b e=>by cases e),fun i x hx=>?_⟩,?_⟩
 ·dsimp only at hv
  by_cases hm:∃t,τ' t=some b
  ·rw [if_pos hm]at hv;exact hv
  ·rw [if_neg hm]at hv;exact c7 b o v hv
 ·dsimp only at hv
  by_cases hm:∃t,τ' t=some b
  ·obtain ⟨t,ht⟩:=hm
   exact .inr (c9 t b ht)
  ·rw [if_neg hm]at hv;exact c8 b o v hv
 ·show(if ∃t,τ' t=some b then w'.cell? ⟨b,o,none⟩else F' b o)=none
  rw [if_neg]
  ·exact c10.bF b hb o
  ·rintro ⟨t,ht⟩
   exact (c10.mks t b ht).2.2.2.2 hb
 ·rw [gv]at hx
  cases hc:os[i]?with
  |none=>rw [hc]at hx;cases hx
  |some x0=>
   rw [hc]at hx;injection hx with hx;subst hx
   obtain ⟨b,h1,h2⟩:=c10.box i x0 hc;refine ⟨b,h1,fK.mark (G:=⟨fun i=>bs[i]?,τ',F'⟩) rfl hle (fun _=>rfl) rfl (fun t h0=>?_) h2⟩;have:dC t=some 0:=rfl;rw [this];intro b2 hb2 o q hq;show(if ∃t,τ' t=some b2 then w'.cell? ⟨b2,o,none⟩else F' b2 o)=some q
   rw [if_pos ⟨t,hb2⟩];exact hq
 ·exact aN.same (G:=kt F') (G':=kt _) (w:=w') (w':=w') hle (fun _ _ h=>h) (fun t b ht=>by cases ht) c11
theorem xA {T:cO}{X:cM}{H:aP}{fuel:Nat}{f:FuncId}{fn:Func}(hmix:P.follows .mixedOrders=true)(hX:df P T X)(hf:P.funcs[f]?=some fn)(hn:(fn.name== "runtime.NumGoroutine")=false){args ins:List PV}{r:PV}{outs:List PV}{pre:Prop}
 (h32:ins.length<=32)(he:pre->b9 P X T H fuel fn args ins fun v os=>v=r/\PV.bh (PV.aO dC) os=outs):bE P T f args ins pre r outs:=by
 intro hpre F w vs bs τ hfits htab hwd hlb hlτ hl hx;have he:=he hpre;unfold b9 at he;cases hb:fn.body with
 |none=>rw [hb]at he;exact he.elim
 |some c=>
  rw [hb]at he;replace he:oG P X T H fn.ntmps fuel none c ⟨[],iK args (slotsOf (qf fn) fn.ntmps),hZ 0 ins⟩ (fun e s=>match e with
   |.normal=>l6 ins.length s.lh (dw P T s fn.results.toList) fun v os=>v=r/\PV.bh (PV.aO dC) os=outs
   |.ret=>l6 ins.length s.lh (dw P T s fn.results.toList) fun v os=>v=r/\PV.bh (PV.aO dC) os=outs
   |_=>False):=he
  left;refine ⟨?_,?_⟩
  ·unfold callFunc
   simp only [Sem.run_bind,run_program,Result.andThen_ok,hf];rw [hn];simp [hb]
  ·refine calls_of_wp hf hb ?_
   have hlen:=hx.length;obtain ⟨cx,hcx⟩:∃cx:Cx,cx=⟨bs++(List.range 64).filterMap τ,w,F,ins.length,fun i=>bs[i]?⟩:=⟨_,rfl⟩;have hps:∀b,b∈cx.ps↔b∈bs\/∃t,τ t=some b:=fun b=>by
    rw [hcx];show b∈bs++_ ↔_;rw [List.mem_append,List.mem_filterMap];refine or_congr Iff.rfl ⟨fun⟨t,_,h⟩=>⟨t,h⟩,fun⟨t,h⟩=>⟨t,by have:=(hl.mks t b h).2.1;simpa using this,h⟩⟩
   have hw0:cx.w0=w:=by rw [hcx]
   have hF0:cx.F0=F:=by rw [hcx]
   have hm0:cx.m=ins.length:=by rw [hcx]
   have hσ0:∀i,cx.σ0 i=bs[i]?:=fun i=>by rw [hcx]
   have hinv:Inv cx ⟨fun i=>bs[i]?,τ,F⟩ (hZ 0 ins) w:=by
    refine ⟨hfits,by rw [hF0];exact gm.refl _,fun b o u hu=>.inl (by rw [hF0];exact hu),fun n x hx=>?_,fun n b hb=>?_,fun t b ht=>?_,hl.nd,hl.inj,fun n t b hb ht=>(hl.mks t b ht).2.2.2.2 (List.mem_of_getElem? hb),fun i hi=>(hσ0 i).symm,⟨by rw [hw0],by rw [hw0],by rw [hw0],by rw [hw0];exact Nat.le_refl _,fun _ _ _=>by rw [hw0]⟩⟩
    ·rw [gR,if_pos (Nat.zero_le n),Nat.sub_zero]at hx
     exact hl.box n x hx
    ·have hlt:n<ins.length:=by rw [<-hl.len];exact (List.getElem?_eq_some_iff.1 hb).1
     refine ⟨⟨ins[n],by rw [gR,if_pos (Nat.zero_le n),Nat.sub_zero];exact List.getElem?_eq_getElem hlt⟩,hl.bF b (List.mem_of_getElem? hb),.inl ((hps b).2 (.inl (List.mem_of_getElem? hb)))⟩
    ·obtain ⟨h1,h2,h3,h4,h5⟩:=hl.mks t b ht
     exact ⟨h1,h3,h4,.inl ((hps b).2 (.inr ⟨t,ht⟩))⟩
   have hrel:fA cx ⟨fun i=>bs[i]?,τ,F⟩ fn.ntmps ⟨[],iK args (slotsOf (qf fn) fn.ntmps),hZ 0 ins⟩ {tmps:=vs.toArray++Array.replicate (fn.ntmps-vs.toArray.size) undef,defers:=[]} w:=by
    refine ⟨hinv,fun t x ht=>?_,rfl,by simp;omega,rfl⟩;have:=lF ht;subst this;by_cases hlt:t<args.length
    ·have hg:args[t]?=some (args.getD t .undef):=by rw [List.getD,List.getElem?_eq_getElem hlt];rfl
     obtain ⟨u,u1,u2⟩:=hx.get hg;have hlt2:t<vs.length:=by omega
     have:(vs.toArray++Array.replicate (fn.ntmps-vs.toArray.size) undef).getD t undef=u:=by
      rw [List.getElem?_eq_getElem hlt2]at u1;injection u1 with u1
      rw [Array.getD_eq_getD_getElem?,Array.getElem?_append_left (by simpa using hlt2)];rw [List.getElem?_toArray,List.getElem?_eq_getElem hlt2,u1];rfl
     show aN _ _ _ ((vs.toArray++Array.replicate (fn.ntmps-vs.toArray.size) undef).getD t undef);rw [this];exact u2
    ·have:args.getD t .undef=.undef:=by rw [List.getD,List.getElem?_eq_none (by omega)];rfl
     rw [this];trivial
   have fin:∀G s (a:Act) w',fA cx G fn.ntmps s a w'->l6 ins.length s.lh (dw P T s fn.results.toList) (fun v os=>v=r/\PV.bh (PV.aO dC) os=outs)->a.defers=[]/\∃u,(results fn a.tmps).run P w'=.ok u w'/\∃v,Ending.returned u=.returned v/\kO F bs τ w r outs v w':=by
    intro G s a w' hr ho;unfold l6 at ho;split at ho
    ·rename_i r0 hr0
     rw [bJ]at ho;split at ho
     ·rename_i hnam
      obtain ⟨u,g1,g2⟩:=mw (cx:=cx) (by rw [hF0];exact htab) hr hr0;refine ⟨hr.defers,u,g1,u,rfl,?_⟩;obtain ⟨s1,s2⟩:=hr.inv.turn (w':=w') (iO (aX [] (PV.ee PV.bM r0))) none rfl rfl rfl (Nat.le_refl _) (fun _ _ _=>rfl) (fun t b e=>by cases e);have h2:=s2 _ _ g2;have hag:r0.cC (PV.aO (b8 (aX [] (PV.ee PV.bM r0))))=r0.cC (PV.aO dC):=by
       refine j3 (fun y=>y.bM=[]\/∀t∈y.bM,t∈aX [] (PV.ee PV.bM r0)) (fun y _ hp=>j4 hp) (fun y _ ht=>?_);rcases ht with h1|h1
       ·exact .inl h1
       ·exact .inr fun t htm=>(fv (PV.ee PV.bM r0) []).2 t (h1 t htm)
      rw [hag]at h2;obtain ⟨b1,b2⟩:=nC r0;have h3:=aN.fa b1 (by rw [b2];exact hnam) h2;obtain ⟨G2,hG2⟩:∃G2,G2=G.turn w' (b8 (aX [] (PV.ee PV.bM r0))) none:=⟨_,rfl⟩;obtain ⟨lh2,hlh2⟩:∃l,l=cT (PV.aO (b8 (aX [] (PV.ee PV.bM r0)))) s.lh:=⟨_,rfl⟩;rw [<-hG2,<-hlh2]at s1;rw [<-hlh2]at ho;rw [<-hG2]at h3;unfold O2 at ho;split at ho
      ·rename_i cs hcs
       rw [my]at ho;split at ho
       ·rename_i hms
        obtain ⟨e1,e2⟩:=ho;obtain ⟨ms,hmse⟩:∃ms,ms=aX [] (PV.aC PV.bM cs):=⟨_,rfl⟩;rw [<-hmse]at e2 hms;obtain ⟨os,hos⟩:∃os,os=PV.bh (PV.fj (EZ ins.length) (Cn ms)) cs:=⟨_,rfl⟩;rw [<-hos]at e2;rw [<-e2];refine kO.still ?_;have hmd:ms.Nodup:=by rw [hmse];exact ik _ _ List.nodup_nil
        have hm60:ms.length<60:=Nat.le_of_ble_eq_true hms;rw [e1]at h3;obtain ⟨hcl,hcg⟩:=je hcs;rw [List.length_range]at hcl;have hlen2:os.length=ins.length:=by rw [hos,gw,hcl]
        have hσ:∀i,i<ins.length->G2.σ i=bs[i]?:=fun i hi=>by rw [s1.par i (by rw [hm0];exact hi),hσ0]
        have hσb:∀i b,bs[i]?=some b->G2.σ i=some b:=fun i b h=>by
         rw [hσ i (by rw [<-hl.len];exact (List.getElem?_eq_some_iff.1 h).1),h]
        obtain ⟨τ',hτ'⟩:∃τ':Nat->Option Nat,τ'=fun t=>match t with |0=>none|t+1=>(ms[t]?).bind G2.τ:=⟨_,rfl⟩
        have hτ:∀t b,τ' t=some b->∃i m,t=i+1/\ms[i]?=some m/\G2.τ m=some b:=fun t b ht=>by
         rw [hτ']at ht;cases t with
         |zero=>cases ht
         |succ t=>
          obtain ⟨m,h1,h2⟩:=Option.bind_eq_some_iff.1 (show(ms[t]?).bind G2.τ=some b from ht);exact ⟨t,m,rfl,h1,h2⟩
        have own:∀b,Own cx b->b∉bs->w.heap.size<=b\/∃t,τ t=some b:=fun b ho hnb=>by
         rcases ho with ho|ho
         ·rcases (hps b).1 ho with g|g
          ·exact absurd g hnb
          ·exact .inr g
         ·rw [hw0]at ho;exact .inl ho
        refine ⟨G2.F,τ',by rw [s1.kept.os,hw0],by rw [s1.kept.tape,hw0],by rw [s1.kept.output,hw0],by have:=s1.kept.size;rw [hw0]at this;exact this,fun k hk h1 h2=>?_,by have:=s1.base;rw [hF0]at this;exact this,s1.fits,fun b o q hq=>?_,fun t b ht=>?_,⟨by rw [hl.len,hlen2],hl.nd,fun b hb=>?_,fun t b ht=>?_,fun t t' b h1 h2=>?_,fun i x hx=>?_⟩,h3⟩
        ·have:=s1.kept.block k (by rw [hw0];exact hk) fun hp=>by
          rcases (hps k).1 hp with g|⟨t,g⟩
          ·exact h1 g
          ·exact h2 t g
         rw [hw0]at this;exact this
        ·rcases s1.ext b o q hq with g|g
         ·rw [hF0]at g;exact .inl g
         ·refine .inr (own b g fun hb=>?_)
          obtain ⟨i,hi⟩:=List.mem_iff_getElem?.1 hb;rw [(s1.boxF i b (hσb i b hi)).2.1 o]at hq;cases hq
        ·obtain ⟨i,m,-,-,g⟩:=hτ t b ht
         refine own b (s1.mark m b g).2.2.2 fun hb=>?_;obtain ⟨j,hj⟩:=List.mem_iff_getElem?.1 hb;exact s1.disj j m b (hσb j b hj) g
        ·obtain ⟨i,hi⟩:=List.mem_iff_getElem?.1 hb
         exact (s1.boxF i b (hσb i b hi)).2.1
        ·obtain ⟨i,m,rfl,g1,g⟩:=hτ t b ht
         obtain ⟨k1,k2,k3,k4⟩:=s1.mark m b g;have hil:i<ms.length:=(List.getElem?_eq_some_iff.1 g1).1;refine ⟨by omega,by omega,k2,k3,fun hb=>?_⟩;obtain ⟨j,hj⟩:=List.mem_iff_getElem?.1 hb;exact s1.disj j m b (hσb j b hj) g
        ·obtain ⟨i,m,rfl,g1,g2⟩:=hτ t b h1
         obtain ⟨j,m',rfl,g3,g4⟩:=hτ t' b h2;have:=s1.injτ m m' b g2 g4;subst this;obtain ⟨a1,-⟩:=List.getElem?_eq_some_iff.1 g1;have:=(List.getElem?_inj a1 hmd).1 (g1.trans g3.symm);omega
        ·rw [hos,gv]at hx
         cases hc':cs[i]?with
         |none=>rw [hc']at hx;cases hx
         |some c0=>
          rw [hc']at hx;injection hx with hx;subst hx
          have hil:i<ins.length:=by rw [<-hcl];exact (List.getElem?_eq_some_iff.1 hc').1
          obtain ⟨c1,g1,g2⟩:=hcg i i (by rw [List.getElem?_range hil]);rw [hc']at g1;injection g1 with g1;subst g1
          obtain ⟨b,g3,g4⟩:=s1.box i c0 g2;refine ⟨b,by rw [<-hσ i hil];exact g3,fK.both (G:=G2) (G':=⟨fun i=>bs[i]?,τ',G2.F⟩) rfl (gm.refl _) (fun n m hk b2 hb2=>?_) (fun u hu=>?_) (fun t u h0 ht=>?_) g4⟩
          ·unfold EZ at hk
           cases hlt:Nat.blt n ins.length with
           |false=>rw [hlt]at hk;cases hk
           |true=>
            rw [hlt]at hk;injection hk with hk;subst hk
            show bs[n]?=some b2;rw [<-hσ n (Nat.le_of_ble_eq_true hlt)];exact hb2
          ·rcases oV hu with⟨-,e⟩|⟨e,-⟩
           ·exact e
           ·exact absurd rfl e
          ·rcases oV ht with⟨e,-⟩|⟨-,j,rfl,h1⟩
           ·exact absurd e h0
           ·refine ⟨by omega,fun b hb=>⟨?_,rfl⟩⟩
            show τ' (j+1)=some b;rw [hτ'];show(ms[j]?).bind G2.τ=_;rw [h1];exact hb
       ·exact ho.elim
      ·exact ho.elim
     ·exact ho.elim
    ·exact ho.elim
   refine (xy hmix hX (by rw [hm0];exact h32) (show jb T cx from⟨by rw [hF0];exact htab,fun b hb=>?_,by rw [hw0];exact hwd⟩) fuel).1 c _ _ ⟨fun i=>bs[i]?,τ,F⟩ _ w _ hrel he fun e G s a w' hr hk=>?_
   ·rcases (hps b).1 hb with g|⟨t,g⟩
    ·exact hlb b g
    ·exact hlτ t b g
   ·cases e with
    |normal=>exact fin G s a w' hr hk
    |ret=>exact fin G s a w' hr hk
    |exit i=>exact hk.elim
    |goto l=>exact hk.elim
end
section
variable [Wd] {P:Program}
def E2(bp:Option Addr):PV->PV
 |.ptr 0 o=>.ptr 0 o
 |.ptr (n+1) o=>bif Nat.beq n 0&&Nat.beq o 0 then .raw (.pointer bp)else .undef
 |.pix ..=>.undef
 |.asl ..=>.undef
 |x=>x
open Classical in
noncomputable def ofRaw(bp:Option Addr):PV->PV
 |.raw v=>if v=.pointer bp then .ptr 1 0 else .raw v
 |x=>x
def z0:Nat->Option Nat
 |0=>some 0
 |_=>none
theorem o7(bp:Option Addr)(y:PV)(hl:y.leaf=true):(E2 bp y).wid=y.wid:=by
 cases y with
 |ptr n o=>
  cases n with
  |zero=>rfl
  |succ n=>
   show PV.wid (bif Nat.beq n 0&&Nat.beq o 0 then .raw (.pointer bp)else .undef)=1
   cases Nat.beq n 0&&Nat.beq o 0<;>rfl
 |_=>rfl
theorem vB(bp:Option Addr)(y:PV)(hl:y.leaf=true):(ofRaw bp y).wid=y.wid:=by
 cases y with
 |raw v=>
  unfold ofRaw;dsimp only;split<;>rfl
 |_=>rfl
theorem zG {F:Nat->Nat->Option Value}{τ:Nat->Option Nat}{w:World}{b0 b1:Nat}(y:PV)(v:Value)(hl:y.leaf=true)(h:aN y ⟨fun i=>[b0,b1][i]?,τ,F⟩ w v):aN (E2 (some ⟨b1,0,none⟩) y) ⟨fun i=>[b0][i]?,τ,F⟩ w v:=by
 cases y with
 |ptr n o=>
  obtain ⟨b,h1,h2⟩:=h;cases n with
  |zero=>exact ⟨b,h1,h2⟩
  |succ n=>
   show aN (bif Nat.beq n 0&&Nat.beq o 0 then .raw (.pointer (some ⟨b1,0,none⟩))else .undef) _ _ _
   cases e:Nat.beq n 0&&Nat.beq o 0 with
   |false=>trivial
   |true=>
    rw [Bool.and_eq_true]at e;obtain rfl:=Nat.eq_of_beq_eq_true e.1;obtain rfl:=Nat.eq_of_beq_eq_true e.2;obtain rfl:b1=b:=by injection h1
    exact ⟨h2,rfl⟩
 |pix n o i=>trivial
 |asl n o i k=>trivial
 |agg l=>cases hl
 |tup l=>cases hl
 |fn g a b=>cases hl
 |_=>exact aN.EO (G:=⟨fun i=>[b0,b1][i]?,τ,F⟩) rfl (fun _ _ _ h=>h) (fun n hn=>by cases hn) (fun t _=>⟨rfl,fun _ _=>rfl⟩) h
theorem JF {F:Nat->Nat->Option Value}{τ:Nat->Option Nat}{w:World}{b0 b1:Nat}(y:PV)(v:Value)(hl:y.leaf=true)(h:aN y ⟨fun i=>[b0][i]?,τ,F⟩ w v):aN (ofRaw (some ⟨b1,0,none⟩) y) ⟨fun i=>[b0,b1][i]?,τ,F⟩ w v:=by
 have up:∀(n b:Nat),([b0]:List Nat)[n]?=some b->([b0,b1]:List Nat)[n]?=some b:=fun n b e=>by
  match n,e with
  |0,e=>exact e
  |n+1,e=>simp at e
 cases y with
 |raw u=>
  unfold ofRaw;dsimp only;split
  ·rename_i e
   exact ⟨b1,rfl,by rw [<-e];exact h.1⟩
  ·exact h
 |agg l=>cases hl
 |tup l=>cases hl
 |fn g a b=>cases hl
 |_=>exact aN.same (G:=⟨fun i=>[b0][i]?,τ,F⟩) (G':=⟨fun i=>[b0,b1][i]?,τ,F⟩) (w:=w) (w':=w) (fun _ _ _ h=>h) up (fun t b e=>⟨e,rfl⟩) h
theorem fB {T:cO}{f:FuncId}{as:List PV}{pre:Prop}{r C D U:PV}(C' D':Option Addr->PV)(h:∀bp,bE P T f as [C' bp] pre r [D' bp])
 (hC:∀bp,C.cC (E2 bp)=C' bp)(hD:∀bp,(D' bp).cC (ofRaw bp)=D)(hA:∀bp,PV.bh (E2 bp) as=as)(hU:U.cC (PV.fj (fun _=>none) z0)=U):bE P T f as [C,U] pre r [D,U]:=by
 intro hpre F w vs bs τ hF hT hw hbs hτ hl hx;obtain ⟨b0,b1,rfl⟩:∃b0 b1,bs=[b0,b1]:=by
  have:=hl.len
  match bs,this with
  |[x,y],_=>exact ⟨x,y,rfl⟩
 have hne:b0≠b1:=fun e=>by have:=hl.nd 0 1 b0 rfl (by rw [e];rfl);cases this
 obtain ⟨b,hb,hB0⟩:=hl.box 0 C rfl;obtain rfl:b0=b:=by injection hb
 obtain ⟨b,hb,hB1⟩:=hl.box 1 U rfl;obtain rfl:b1=b:=by injection hb
 have h1lt:=hB1.lt;have h1τ:∀t,τ t≠some b1:=fun t e=>(hl.mks t b1 e).2.2.2.2 (by simp);have hl':Mq F [b0] τ w [C' (some ⟨b1,0,none⟩)]:=by
  refine ⟨rfl,fun i j b hi hj=>?_,fun b hb=>hl.bF b (by simp at hb;simp [hb]),fun t b e=>?_,hl.inj,fun i x hi=>?_⟩
  ·cases i<;>cases j<;>simp at hi hj
   rfl
  ·obtain ⟨m1,m2,m3,m4,m5⟩:=hl.mks t b e
   exact ⟨m1,m2,m3,m4,fun hb=>m5 (by simp at hb;simp [hb])⟩
  ·cases i with
   |succ i=>simp at hi
   |zero=>
    injection hi with hi;subst hi
    refine ⟨b0,rfl,?_⟩;obtain ⟨u,e,fz,g1,g2,g3,g4,g5⟩:=hB0;refine ⟨u,e,fz,g1,g2,?_,?_,g5⟩
    ·rw [<-hC];exact aN.map zG (o7 _) g3
    ·rw [<-hC,PV.gE (o7 _)];exact g4
 have hx':aw as ⟨fun i=>[b0][i]?,τ,F⟩ w vs:=by
  rw [<-hA (some ⟨b1,0,none⟩)];exact aw.map zG (o7 _) hx
 have came:∀u w',kO F [b0] τ w r [D' (some ⟨b1,0,none⟩)] u w'->kO F [b0,b1] τ w r [D,U] u w':=by
  rintro u w' ⟨F',τ',c1,c2,c3,c4,c5,c6,c7,c8,c9,c10,c11⟩
  have hh:w'.heap[b1]?=w.heap[b1]?:=c5 b1 h1lt (by simp;exact fun e=>hne e.symm) h1τ;have hτ':∀t,τ' t≠some b1:=fun t e=>by
   rcases c9 t b1 e with h|⟨t',h⟩
   ·omega
   ·exact h1τ t' h
  have hF1:∀o,F' b1 o=none:=fun o=>by
   cases e:F' b1 o with
   |none=>rfl
   |some q=>
    rcases c8 b1 o q e with h|h|⟨t,h⟩
    ·rw [hl.bF b1 (by simp) o]at h;cases h
    ·omega
    ·exact absurd h (h1τ t)
  refine ⟨F',τ',c1,c2,c3,c4,fun k hk hn ht=>c5 k hk (fun e=>hn (by simp at e;simp [e])) ht,c6,c7,c8,c9,⟨rfl,hl.nd,fun b hb o=>?_,fun t b e=>?_,c10.inj,fun i x hi=>?_⟩,c11⟩
  ·simp at hb
   rcases hb with rfl|rfl
   ·exact c10.bF b (by simp) o
   ·exact hF1 o
  ·obtain ⟨m1,m2,m3,m4,m5⟩:=c10.mks t b e
   refine ⟨m1,m2,m3,m4,fun hb=>?_⟩;simp at hb;rcases hb with rfl|rfl
   ·exact m5 (by simp)
   ·exact hτ' t e
  ·match i,hi with
   |0,hi=>
    injection hi with hi;subst hi
    refine ⟨b0,rfl,?_⟩;obtain ⟨b,g0,u,e,fz,g1,g2,g3,g4,g5⟩:=c10.box 0 _ rfl;obtain rfl:b0=b:=by injection g0
    refine ⟨u,e,fz,g1,g2,?_,?_,g5⟩
    ·rw [<-hD (some ⟨b1,0,none⟩)];exact aN.map JF (vB _) g3
    ·rw [<-hD (some ⟨b1,0,none⟩),PV.gE (vB _)];exact g4
   |1,hi=>
    injection hi with hi;subst hi
    refine ⟨b1,rfl,?_⟩;rw [<-hU];refine fK.both (G:=⟨fun i=>[b0,b1][i]?,τ,F⟩) hh c6 (fun n m e=>by cases e) (fun u e=>?_) (fun t u h0 e=>?_) hB1
    ·injection e with e;exact e.symm
    ·cases t with
     |zero=>exact absurd rfl h0
     |succ t=>cases e
   |i+2,hi=>simp at hi
 rcases h _ hpre F w vs [b0] τ hF hT hw (fun b hb=>hbs b (by simp at hb;simp [hb])) hτ hl' hx' with⟨h1,h2⟩|⟨u,w',h1,h2⟩
 ·exact .inl ⟨h1,h2.mono fun e w' ⟨u,he,hc⟩=>⟨u,he,came u w' hc⟩⟩
 ·exact .inr ⟨u,w',h1,came u w' h2⟩
theorem ae.Qr {T:cO}{f:FuncId}{xs:List PV}{c:aD}{pre:Prop}{r:PV}{outs:List PV}(h:ae P T f xs c)(hn:PV.aC PV.bU xs≠[])(hp:pre->c.pre)(hr:pre->c.r=.tup (r::outs)):ae P T f xs ⟨pre,.tup (r::outs)⟩:=
 ae.aZ hn fun hpre=>h.P5 hn (hr hpre) (hp hpre)
end
end Go.Vc

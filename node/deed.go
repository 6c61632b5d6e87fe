package node

import (
	"hourglass/admit"
	"hourglass/alarm"
	"hourglass/api"
	"hourglass/call"
	"hourglass/lease"
	"hourglass/owner"
	"hourglass/policy"
	"hourglass/sender"
	"hourglass/throttle"
	"hourglass/ticks"
)

// What an alarm is for: an owner ends, a call is lost, a call has rested. In this order those of one key are done.
const (
	ends = iota + 1
	lost
	rested
)

// deed is a node that does something, and what is told of that so far.
type deed struct {
	*Node
	out Out
}

// begin lets a node go on to the time of a deed.
func (n *Node) begin(now int) *deed {
	n.now = max(n.now, ticks.Clamp(now))
	return &deed{Node: n}
}

// send tells that packets are sent.
func (d *deed) send(packets ...api.Packet) {
	d.out.Packets = append(d.out.Packets, packets...)
}

// tell tells that something has happened, with a code and a value.
func (d *deed) tell(e api.Event, code, value int) {
	e.Node, e.Local, e.Code, e.Value = d.me, d.now, code, value
	d.out.Events = append(d.out.Events, e)
}

// ofOwner tells what an event has that is an owner's.
func ofOwner(kind int, o owner.Owner) api.Event {
	return api.Event{Kind: kind, Key: o.Key, Parent: o.Parent, Root: o.Root, Hop: o.Hop}
}

// ofCall tells what an event has that is an owner's call's.
func ofCall(kind int, o owner.Owner, x call.Call) api.Event {
	return api.Event{Kind: kind, Key: call.Key(x), Parent: o.Key, Root: o.Root, Hop: o.Hop + 1}
}

// alarmed hands on each alarm that an owner has: its name, and its time.
func (n *Node) alarmed(o owner.Owner, hand func(what alarm.Name, at int)) {
	hand(alarm.Name{K: o.Key, Kind: ends}, owner.Ends(o))
	for _, x := range o.Calls {
		switch x.State {
		case call.Waiting:
			hand(alarm.Name{K: call.Key(x), Kind: lost}, ticks.Add(x.Sent, n.conf.Wait))
		case call.Resting:
			hand(alarm.Name{K: call.Key(x), Kind: rested}, x.Ready)
		}
	}
}

// drop takes an owner away, and its alarms.
func (n *Node) drop(k api.Key) {
	if o, has := n.owners.Get(k); has {
		n.alarmed(o, func(what alarm.Name, _ int) { n.alarms.Clear(what) })
		n.owners.Drop(k)
	}
}

// put lays an owner, and its alarms.
func (n *Node) put(o owner.Owner) {
	// What it was has alarms that it may have no more.
	n.drop(o.Key)
	n.owners.Put(o)
	// There is always room: of roots, attempts and calls there are fewer together than alarms may be.
	n.alarmed(o, func(what alarm.Name, at int) { n.alarms.Set(what, at) })
}

// keep puts an owner; a root that is settled ends instead.
func (d *deed) keep(o owner.Owner) {
	code, value, settled := sender.Settled(o, d.now)
	if !settled {
		d.put(o)
		return
	}
	d.drop(o.Key)
	d.tell(ofOwner(api.Ended, o), code, value)
}

// stop ends an owner with a code, and tells all whom it waits for to stop.
func (d *deed) stop(o owner.Owner, code int) {
	d.drop(o.Key)
	d.send(sender.Cancels(d.me, o)...)
	kind := api.Stopped
	if owner.IsRoot(o) {
		kind = api.Ended
	}
	d.tell(ofOwner(kind, o), code, 0)
}

// attempt sends the next attempt of an owner's call, if there may be one.
func (d *deed) attempt(o owner.Owner, x call.Call) {
	begun, p := sender.Send(d.conf, d.me, o, x, d.now)
	if p != (api.Packet{}) {
		d.send(p)
		d.tell(ofCall(api.Sent, o, begun), api.Done, 0)
	}
	d.keep(owner.With(o, begun))
}

// ask makes a call of a new name.
func (d *deed) ask(o owner.Owner, to, prog int) {
	d.attempt(o, call.Call{Id: d.name(), To: to, Program: prog})
}

// fail notes that the attempt of an owner's call failed, with a code, and with what the other side asked for.
func (d *deed) fail(o owner.Owner, x call.Call, code, push int) {
	x, d.tokens = sender.Failed(d.conf, d.me, o, x, d.now, d.tokens, code, push)
	d.keep(owner.With(o, x))
}

// called begins an attempt that is asked for, or says why not.
func (d *deed) called(p api.Packet) {
	o := owner.Owner{
		Key: p.Key, Root: p.Root, Parent: p.Parent, From: p.From, Hop: p.Hop,
		Deadline: admit.Deadline(p), Until: p.Until, Program: p.Program,
	}
	_, here := d.owners.Get(p.Key)
	room := admit.Room{
		Now: d.now, Running: len(d.owners.Running()), Programs: len(d.conf.Programs),
		Seen: here || d.seen.Has(p.Key),
	}
	switch what, n := admit.Check(d.conf, p, room); what {
	case admit.Start:
		d.start(o)
	case admit.Later:
		d.send(sender.Refuse(d.me, o, n))
	case admit.Refuse:
		// Whose lease is over, nobody waits for any more.
		if n != api.Cancelled {
			d.send(sender.Reply(d.me, o, n, 0))
		}
	}
}

// start begins an attempt, unless it can't be kept in mind that it was begun.
func (d *deed) start(o owner.Owner) {
	if !d.seen.Mark(o.Key, lease.Ends(o.Deadline, o.Until), d.now) {
		d.send(sender.Refuse(d.me, o, d.conf.Base))
		return
	}
	d.tell(ofOwner(api.Started, o), api.Done, 0)
	d.put(o)
}

// calling tells the call of a name, and the owner who makes it.
func (d *deed) calling(name api.Id) (owner.Owner, call.Call, bool) {
	o, has := d.owners.Caller(name)
	if !has {
		return owner.Owner{}, call.Call{}, false
	}
	return o, o.Calls[owner.Find(o, name)], true
}

// answered takes in what is said to a call that waits, at that attempt.
func (d *deed) answered(p api.Packet) {
	o, x, has := d.calling(p.Key.Id)
	if !has || x.State != call.Waiting || call.Key(x) != p.Key {
		return
	}
	switch {
	case p.Kind == api.Push:
		d.tell(ofCall(api.Pushed, o, x), api.Done, p.Delay)
		d.fail(o, x, api.Unavailable, p.Delay)
	case p.More:
		d.tell(ofCall(api.Committed, o, x), api.Done, 0)
		d.put(owner.With(o, call.Taken(x)))
	case p.Code == api.Done:
		d.tokens = throttle.Good(d.tokens, d.conf.Tokens)
		d.keep(owner.With(o, call.Good(x, p.Value)))
	default:
		d.fail(o, x, p.Code, policy.NoPush)
	}
}

// cancelled stops an attempt that nobody waits for any more.
func (d *deed) cancelled(p api.Packet) {
	if o, has := d.owners.Get(p.Key); has {
		d.stop(o, api.Cancelled)
	}
}

// kept raises an attempt's lease.
func (d *deed) kept(p api.Packet) {
	if o, has := d.owners.Get(p.Key); has {
		o.Until = lease.Raise(o.Until, p.Until)
		d.put(o)
	}
}

// wake does what an alarm is for, unless its owner is gone meanwhile.
func (d *deed) wake(due alarm.Name) {
	if due.Kind == ends {
		d.expire(due.K)
		return
	}
	o, x, has := d.calling(due.K.Id)
	if !has {
		return
	}
	if due.Kind == rested {
		d.attempt(o, x)
		return
	}
	// Who answers no more may still be at it.
	d.send(api.Packet{Kind: api.Cancel, From: d.me, To: x.To, Key: due.K})
	d.fail(o, x, api.Unavailable, policy.NoPush)
}

// expire stops an owner whose time is over.
func (d *deed) expire(k api.Key) {
	if o, has := d.owners.Get(k); has {
		code, _ := owner.Over(o, d.now)
		d.stop(o, code)
	}
}

// renew tells all whom an owner waits for its lease; a root's goes on from now.
func (d *deed) renew(k api.Key) {
	o, _ := d.owners.Get(k)
	if owner.IsRoot(o) {
		o.Until = lease.Grant(d.now, d.conf.Lease)
		d.put(o)
	}
	d.send(sender.Keeps(d.me, o)...)
}

// step does the next unit of an attempt's program.
func (d *deed) step(o owner.Owner) {
	next, act := owner.Step(o, d.conf.Programs[o.Program])
	switch act.Kind {
	case owner.Waits:
	case owner.Answers:
		d.reply(o, sender.Reply(d.me, o, api.Done, act.A), api.Done, act.A)
	case owner.Fails:
		d.reply(o, sender.Reply(d.me, o, act.A, 0), act.A, 0)
	case owner.Refuses:
		d.reply(o, sender.Refuse(d.me, o, act.A), api.Unavailable, 0)
	case owner.Spawns:
		d.spawn(o, next, act)
	case owner.Heads:
		d.work(o)
		d.put(next)
		d.send(sender.More(d.me, o))
	default:
		d.work(o)
		d.put(next)
	}
}

// reply ends an attempt by its answer, and tells all whom it still waits for to stop.
func (d *deed) reply(o owner.Owner, answer api.Packet, code, value int) {
	d.drop(o.Key)
	d.send(answer)
	d.send(sender.Cancels(d.me, o)...)
	d.tell(ofOwner(api.Replied, o), code, value)
}

// work tells that an attempt does a unit of its program.
func (d *deed) work(o owner.Owner) {
	d.tell(ofOwner(api.Worked, o), api.Done, 0)
}

// spawn lets an attempt, that is behind the step then, make a call; it fails, if it may make no more.
func (d *deed) spawn(o, next owner.Owner, act owner.Act) {
	if len(o.Calls) >= d.conf.Fan || d.names() == 0 {
		d.reply(o, sender.Reply(d.me, o, api.Exhausted, 0), api.Exhausted, 0)
		return
	}
	d.work(o)
	d.ask(next, act.A, act.B)
}

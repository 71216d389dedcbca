package persist_test

import (
	"fmt"
	"math"
	"math/rand"
	"regexp"
	"slices"
	"strings"
	"testing"
	"unsafe"

	"waypost/api"
	"waypost/persist"
)

// mostServed is the greatest number of responses on a connection.
const mostServed = 1000000

// The states of connections and the kinds of events, as the chapter numbers them.
const (
	open      = 1
	answering = 2
	closed    = 3

	arrived    = 1
	badRequest = 2
	answered   = 3
	ended      = 4
)

// listForm is a list of tokens.
var listForm = regexp.MustCompile("\\A(?:[!#$%&'*+\\-.^_`|~0-9A-Za-z]+|)(?:[ \\t]*,[ \\t]*(?:[!#$%&'*+\\-.^_`|~0-9A-Za-z]+|))*\\z")

// closeForm is a list that has close.
var closeForm = regexp.MustCompile(`(?:\A|[, \t])[Cc][Ll][Oo][Ss][Ee](?:\z|[, \t])`)

var nameForm = regexp.MustCompile(`\A[Cc][Oo][Nn][Nn][Ee][Cc][Tt][Ii][Oo][Nn]\z`)

// mostList is how long a list may be that layer 5 reads.
const mostList = 1024

// closesOf is what Closes should return.
func closesOf(fields []api.Field) bool {
	is := false
	for _, f := range fields {
		// A value begins and ends with no blank.
		list := listForm.MatchString(f.Value) && strings.Trim(f.Value, " \t") == f.Value && len(f.Value) <= mostList
		is = is || nameForm.MatchString(f.Name) && (!list || closeForm.MatchString(f.Value))
	}
	return is
}

// within says whether n is from low to high.
func within(n, low, high int) bool { return low <= n && n <= high }

// checkOf is what Check should return.
func checkOf(l api.Link) api.Errno {
	if !within(l.State, 1, 3) {
		return api.ErrState
	}
	if !within(l.Served, 0, mostServed) || l.Served == 0 && l.Code != 0 || l.Served != 0 && !within(l.Code, 100, 599) {
		return api.ErrRange
	}
	if l.Asked && l.State != answering {
		return api.ErrForm
	}
	return api.OK
}

// done is the chapter's table: what an event does in a state, with the code of the event, and ok if it is not refused.
func done(l api.Link, e api.LinkEvent) (next api.Link, ok bool) {
	type row struct{ event, in int }
	answer := l.Served + 1
	next, ok = map[row]api.Link{
		{arrived, open}:       {State: answering, Asked: e.Close, Served: l.Served, Code: l.Code},
		{badRequest, open}:    {State: closed, Served: answer, Code: e.Code},
		{answered, answering}: {State: open, Served: answer, Code: e.Code},
		{ended, open}:         {State: closed, Served: l.Served, Code: l.Code},
		{ended, answering}:    {State: answering, Asked: true, Served: l.Served, Code: l.Code},
	}[row{e.Kind, l.State}]
	if e.Kind == answered && ok && (l.Asked || e.Close || answer == mostServed) {
		next.State = closed
	}
	return next, ok && l.Served < mostServed
}

// eventOf is what is wrong with an event, whatever the connection is.
func eventOf(e api.LinkEvent) api.Errno {
	if !within(e.Kind, 1, 4) {
		return api.ErrKind
	}
	low, high := [5]int{badRequest: 400, answered: 100}[e.Kind], [5]int{badRequest: 599, answered: 599}[e.Kind]
	if !within(e.Code, low, high) {
		return api.ErrRange
	}
	if e.Close && e.Kind%2 == 0 {
		return api.ErrForm
	}
	return api.OK
}

// stepOf is what Step should return.
func stepOf(l api.Link, e api.LinkEvent) (api.Link, api.Errno) {
	if e := checkOf(l); e != api.OK {
		return api.Link{}, e
	}
	if err := eventOf(e); err != api.OK {
		return api.Link{}, err
	}
	next, ok := done(l, e)
	if !ok {
		return api.Link{}, api.ErrState
	}
	return next, api.OK
}

// runOf is what Run should return.
func runOf(l api.Link, events []api.LinkEvent) (api.Link, int, api.Errno) {
	if e := checkOf(l); e != api.OK {
		return api.Link{}, 0, e
	}
	for n, event := range events {
		next, e := stepOf(l, event)
		if e != api.OK {
			return l, n, e
		}
		l = next
	}
	return l, len(events), api.OK
}

// mayOf is what May should return.
func mayOf(l api.Link) ([]int, api.Errno) {
	if e := checkOf(l); e != api.OK {
		return nil, e
	}
	var kinds []int
	for _, right := range []api.LinkEvent{{Kind: arrived}, {Kind: badRequest, Code: 400}, {Kind: answered, Code: 200}, {Kind: ended}} {
		if _, ok := done(l, right); ok {
			kinds = append(kinds, right.Kind)
		}
	}
	return kinds, api.OK
}

// keepOf is what Keep should return.
func keepOf(l api.Link, last bool) (bool, api.Errno) {
	if e := checkOf(l); e != api.OK {
		return false, e
	}
	if l.State != answering || l.Served == mostServed {
		return false, api.ErrState
	}
	return !l.Asked && !last && l.Served+1 < mostServed, api.OK
}

// checkLink checks what is said of a connection against the model.
func checkLink(t *testing.T, l api.Link) {
	t.Helper()
	if got, want := persist.Check(l), checkOf(l); got != want {
		t.Fatalf("%v is checked: %v, not %v", l, got, want)
	}
	want, wantErr := mayOf(l)
	if got, e := persist.May(l); !slices.Equal(got, want) || e != wantErr {
		t.Fatalf("%v may: %v %v, not %v %v", l, got, e, want, wantErr)
	}
	for _, last := range []bool{false, true} {
		want, wantErr := keepOf(l, last)
		if got, e := persist.Keep(l, last); got != want || e != wantErr {
			t.Fatalf("%v is kept, %v: %v %v, not %v %v", l, last, got, e, want, wantErr)
		}
	}
}

// checkStep checks Step against the model.
func checkStep(t *testing.T, l api.Link, e api.LinkEvent) {
	t.Helper()
	want, wantErr := stepOf(l, e)
	if got, err := persist.Step(l, e); got != want || err != wantErr {
		t.Fatalf("%v, %v: %v %v, not %v %v", l, e, got, err, want, wantErr)
	}
}

// checkRun checks Run against the model.
func checkRun(t *testing.T, l api.Link, events []api.LinkEvent) {
	t.Helper()
	before := slices.Clone(events)
	want, wantDone, wantErr := runOf(l, events)
	if got, n, e := persist.Run(l, events); got != want || n != wantDone || e != wantErr {
		t.Fatalf("%v, %.20v: %v %d %v, not %v %d %v", l, events, got, n, e, want, wantDone, wantErr)
	}
	if !slices.Equal(events, before) {
		t.Fatalf("%.20v is changed to %.20v", before, events)
	}
}

// checkCloses checks Closes against the model.
func checkCloses(t *testing.T, fields ...api.Field) {
	t.Helper()
	before := slices.Clone(fields)
	if got, want := persist.Closes(fields), closesOf(fields); got != want {
		t.Fatalf("%.200q: %v, not %v", fields, got, want)
	}
	if !slices.Equal(fields, before) {
		t.Fatalf("%.200q is changed to %.200q", before, fields)
	}
}

// numbers are numbers about those that the chapter names, and extreme ones.
func numbers() []int {
	l := []int{math.MinInt, math.MinInt32, math.MaxInt32, math.MaxInt, 1<<32 + 200, 1<<32 + 1, -1<<32 + 2}
	for _, about := range []int{-200, 0, 3, 100, 200, 400, 599, mostServed} {
		for n := about - 2; n <= about+2; n++ {
			l = append(l, n)
		}
	}
	slices.Sort(l)
	return slices.Compact(l)
}

// kinds are all kinds of events and states, and others.
func kinds() []int {
	return []int{math.MinInt, -1, 0, 1, 2, 3, 4, 5, 6, 1<<32 + 1, 1<<16 + 2, 1<<8 + 3, math.MaxInt}
}

// links are connections of all states and numbers, valid or not.
func links() []api.Link {
	var l []api.Link
	for _, state := range kinds() {
		for _, served := range numbers() {
			for _, code := range numbers() {
				l = append(l, api.Link{State: state, Served: served, Code: code}, api.Link{State: state, Asked: true, Served: served, Code: code})
			}
		}
	}
	return l
}

// validLinks are all valid connections of links.
func validLinks() []api.Link {
	return slices.DeleteFunc(links(), func(l api.Link) bool { return checkOf(l) != api.OK })
}

// events are events of all kinds and codes, right or wrong.
func events() []api.LinkEvent {
	var l []api.LinkEvent
	for _, kind := range kinds() {
		for _, code := range numbers() {
			l = append(l, api.LinkEvent{Kind: kind, Code: code}, api.LinkEvent{Kind: kind, Code: code, Close: true})
		}
	}
	return l
}

// rightEvents are all events with which nothing is wrong.
func rightEvents() []api.LinkEvent {
	return slices.DeleteFunc(events(), func(e api.LinkEvent) bool { return eventOf(e) != api.OK })
}

// few are events of each kind, with Close and without.
func few() []api.LinkEvent {
	return []api.LinkEvent{in(), lastIn(), wrong(400), out(200), lastOut(599), end()}
}

// Events.

func in() api.LinkEvent { return api.LinkEvent{Kind: api.Arrived} }

func lastIn() api.LinkEvent { return api.LinkEvent{Kind: api.Arrived, Close: true} }

func wrong(code int) api.LinkEvent { return api.LinkEvent{Kind: api.BadRequest, Code: code} }

func out(code int) api.LinkEvent { return api.LinkEvent{Kind: api.Answered, Code: code} }

func lastOut(code int) api.LinkEvent {
	return api.LinkEvent{Kind: api.Answered, Code: code, Close: true}
}

func end() api.LinkEvent { return api.LinkEvent{Kind: api.Ended} }

// link is a connection.
func link(state int, asked bool, served, code int) api.Link {
	return api.Link{State: state, Asked: asked, Served: served, Code: code}
}

// starts are connections from which to go on.
func starts() []api.Link {
	return []api.Link{
		link(open, false, 0, 0), link(answering, false, 0, 0), link(answering, true, 0, 0), link(closed, false, 0, 0),
		link(open, false, 7, 200), link(answering, true, 7, 100), link(closed, false, 7, 599),
		link(open, false, mostServed-2, 404), link(answering, false, mostServed-2, 404),
		link(open, false, mostServed-1, 404), link(answering, false, mostServed-1, 404), link(answering, true, mostServed-1, 404),
		link(open, false, mostServed, 404), link(answering, false, mostServed, 404), link(closed, false, mostServed, 404),
	}
}

// sequences are all sequences of at most most elements.
func sequences[T any](most int, elements ...T) [][]T {
	l := [][]T{nil}
	from := 0
	for range most {
		to := len(l)
		for _, s := range l[from:to] {
			for _, one := range elements {
				l = append(l, append(slices.Clip(s), one))
			}
		}
		from = to
	}
	return l
}

// runs are n random sequences of events, most of which are not refused when they come.
func runs(n int) [][]api.LinkEvent {
	r := rand.New(rand.NewSource(1))
	right := rightEvents()
	var l [][]api.LinkEvent
	for range n {
		var s []api.LinkEvent
		now := link(open, false, 0, 0)
		for range r.Intn(40) {
			e := right[r.Intn(len(right))]
			next, ok := done(now, e)
			if (!ok || next.State == closed) && r.Intn(60) > 0 {
				continue
			}
			if s = append(s, e); ok {
				now = next
			}
		}
		l = append(l, s)
	}
	return l
}

// f is a field.
func f(name, value string) api.Field { return api.Field{Name: name, Value: value} }

// connection is a field Connection.
func connection(value string) api.Field { return f("Connection", value) }

// pick is one of the strings.
func pick(r *rand.Rand, l ...string) string { return l[r.Intn(len(l))] }

// around is s with a byte at each place, instead of each byte, and without each byte.
func around(s string) []string {
	l := []string{s + s}
	for i := range len(s) + 1 {
		for b := range 256 {
			one := string([]byte{byte(b)})
			l = append(l, s[:i]+one+s[i:])
			if i < len(s) {
				l = append(l, s[:i]+one+s[i+1:])
			}
		}
		l = append(l, s[:i], s[i:])
		if i < len(s) {
			l = append(l, s[:i]+s[i+1:])
		}
	}
	return l
}

// apart says whether two slices share no memory.
func apart(a, b []int) bool {
	return cap(a) == 0 || cap(b) == 0 || unsafe.SliceData(a) != unsafe.SliceData(b)
}

// say is a run, to be shown.
func say(events []api.LinkEvent) string { return fmt.Sprintf("%.20v", events) }

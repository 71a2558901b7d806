package hub

import (
	"bracken/api"
	"bracken/feed"
	"bracken/frame"
	"bracken/req"
)

// version is the version of all frames that a hub accepts and sends.
const version = 3

// connection is a stream of bytes to the server and one back.
type connection struct {
	*feed.Feed    // nil only if the connection was never open
	open, watches bool
	waiting       []byte // sent, but not yet returned
}

// opened returns a connection that has received nothing.
func opened() connection {
	return connection{Feed: feed.New(), open: true}
}

// send lets s wait behind what was sent before.
func (c *connection) send(s string) {
	c.waiting = append(c.waiting, s...)
}

// take returns the bytes that are waiting, and removes them.
func (c *connection) take() string {
	s := string(c.waiting)
	c.waiting = nil
	return s
}

// isConnection reports whether conn is the number of a connection.
func isConnection(conn int) bool {
	return 0 <= conn && conn < api.MaxConns
}

// replyFrame returns the reply frame with r.
func replyFrame(r api.Reply) string {
	// No error: r has a known code, and a revision that some state has had.
	payload, _ := req.Reply(r)
	return framed(api.KReply, payload)
}

// framed returns the bytes of a frame.
func framed(kind int, payload string) string {
	// No error: no reply and no encoding of a delta is too large for a frame.
	s, _ := frame.Encode(api.Frame{Version: version, Kind: kind, Payload: payload})
	return s
}
